package flows

import (
	"slices"

	"belfry/api"
	"belfry/names"
	"belfry/values"
)

// moment is a flow, told by its place among the Flows, at an instant.
type moment struct {
	flow, instant int
}

// later tells what something is at an instant, once that is asked for.
type later func(instant int) api.Value

// meaning is what a name may mean something by.
type meaning struct {
	prog api.Prog
	ins  [][]int64
	from []int
	ask  func(m moment) api.Value
}

// thing is what a name means, and what stands in its place at other stations from an instant on.
type thing struct {
	known   later
	from    int
	standIn api.Value
}

// asking makes what tells a flow at an instant. Each is kept: else one that many ask for would be worked out for each of them again, and again for each that asks for those.
func asking(p api.Prog, ins [][]int64, from []int) func(m moment) api.Value {
	kept := map[moment]api.Value{}
	var bodies []later
	ask := func(m moment) api.Value {
		v, ok := kept[m]
		if !ok {
			v = bodies[m.flow](m.instant)
			kept[m] = v
		}
		return v
	}
	means := meaning{prog: p, ins: ins, from: from, ask: ask}
	for _, f := range p.Flows {
		bodies = append(bodies, means.of(f.Body, f.Station))
	}
	return ask
}

// of tells what is worked out at a station. Nothing is asked for ahead of the instant 0, since starts.Check has refused what would.
func (m meaning) of(x api.Expr, station int) later {
	switch x.Op {
	case api.ExInt:
		return always(api.Value{Type: api.TyInt, N: x.N})
	case api.ExBool:
		return always(api.Value{Type: api.TyBool, N: x.N})
	case api.ExName:
		return m.named(x.Name, station)
	}
	var parts []later
	for _, part := range x.Args {
		parts = append(parts, m.of(part, station))
	}
	switch x.Op {
	case api.ExPre:
		return before(parts[0])
	case api.ExThen:
		return begun(parts[0], parts[1])
	}
	return done(x.Op, parts)
}

// named tells a name as a station has it: its own names it has at all instants.
func (m meaning) named(name string, station int) later {
	home, t, flow, _ := names.Find(m.prog, name)
	var it thing
	if flow < 0 {
		it = m.in(name, t)
	} else {
		it = m.flow(flow, t)
	}
	if home == station || it.from < 0 {
		return it.known
	}
	return it.heard
}

func (m meaning) in(name string, t api.Type) thing {
	place := slices.IndexFunc(m.prog.Ins, func(in api.In) bool { return in.Name == name })
	known := func(instant int) api.Value { return api.Value{Type: t, N: m.ins[instant][place]} }
	return thing{known: known, from: m.from[place], standIn: api.Value{Type: t}}
}

func (m meaning) flow(place int, t api.Type) thing {
	known := func(instant int) api.Value { return m.ask(moment{place, instant}) }
	return thing{known: known, from: m.from[len(m.prog.Ins)+place], standIn: api.Value{Type: t, N: m.prog.Flows[place].Default}}
}

// heard tells it as other stations have it.
func (x thing) heard(instant int) api.Value {
	if instant >= x.from {
		return x.standIn
	}
	return x.known(instant)
}

func always(v api.Value) later {
	return func(int) api.Value { return v }
}

func before(part later) later {
	return func(instant int) api.Value { return part(instant - 1) }
}

// begun asks only the part whose instant it is, since the other one may have no value there.
func begun(first, second later) later {
	return func(instant int) api.Value {
		if instant == 0 {
			return first(instant)
		}
		return second(instant)
	}
}

// done tells what an operator makes of its parts; types.Check has refused those that it is not of.
func done(o api.Op, parts []later) later {
	return func(instant int) api.Value {
		l := make([]api.Value, len(parts))
		for i, part := range parts {
			l[i] = part(instant)
		}
		v, _ := values.Do(o, l)
		return v
	}
}
