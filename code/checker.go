package code

import "belfry/api"

// checker holds instructions against a station's places, with the types of what they leave.
type checker struct {
	places    []api.Place
	operators map[api.Op]operator
	pile      []api.Type
}

// step tells false of an instruction that may not be, there.
func (c *checker) step(i api.Instr) bool {
	o, ok := c.operators[i.Op]
	if !ok {
		return c.push(c.atom(i))
	}
	rest := len(c.pile) - o.takes
	if rest < 0 || i.N != 0 || i.Ago < 0 || i.Ago > o.ago {
		return false
	}
	taken := c.pile[rest:len(c.pile):len(c.pile)] // with no room behind it, so that an operator has hold of nothing but what it takes
	c.pile = c.pile[:rest]
	return c.push(o.leaves(taken))
}

// push tells false of no type.
func (c *checker) push(t api.Type) bool {
	c.pile = append(c.pile, t)
	return t != api.TyNone
}

// atom tells the type of what an instruction that takes nothing leaves; TyNone, if it may not be.
func (c *checker) atom(i api.Instr) api.Type {
	switch {
	case i.Op == api.ExInt && i.Ago == 0:
		return api.TyInt
	case i.Op == api.ExBool && i.Ago == 0 && (i.N == 0 || i.N == 1):
		return api.TyBool
	case i.Op == api.ExName && i.N >= 0 && i.N < int64(len(c.places)):
		return kept(c.places[i.N], i.Ago)
	}
	return api.TyNone
}

// kept tells the type of a place's value of so many rounds ago; TyNone, if it is not kept so long.
func kept(place api.Place, ago int) api.Type {
	if ago < 0 || ago > place.Keep {
		return api.TyNone
	}
	return place.Type
}
