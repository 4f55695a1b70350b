package late

import (
	"fmt"
	"slices"
	"testing"

	"belfry/api"
	"belfry/exprs"
	"belfry/names"
)

// lists goes through all lists of so many numbers, each 0 to the greatest.
func lists(count, greatest int, each func(l []int)) {
	l := make([]int, count)
	for {
		each(l)
		i := 0
		for ; i < count && l[i] == greatest; i++ {
			l[i] = 0
		}
		if i == count {
			return
		}
		l[i]++
	}
}

// tried tells the least of each place over all short lists that may be, in the chapter's words; false, if there is none.
func tried(p api.Prog) ([]int, bool) {
	var best []int
	lists(len(p.Flows), len(p.Flows)+1, func(l []int) {
		if !may(p, l) {
			return
		}
		if best == nil {
			best = slices.Clone(l)
		}
		for i := range l {
			best[i] = min(best[i], l[i])
		}
	})
	return best, best != nil
}

// P14.1, P14.2: all small programs: of all lists that may be, Of answers that one with which each is at most as late as with any other.
func TestAllSmall(t *testing.T) {
	bodies := []api.Expr{n(1), v("x"), ago("x", 1), v("f0"), ago("f0", 1), v("f1"), ago("f1", 1), ago("f1", 2), v("f2"), ago("f2", 1), ago("f2", 2), of(api.ExAdd, v("f2"), ago("f0", 1))}
	stations := [][]int{{1, 1, 1}, {1, 2, 1}, {2, 1, 1}, {1, 2, 3}}
	tight := 0
	lists(3, len(bodies)-1, func(choice []int) {
		for i, at := range stations {
			if (choice[0]+choice[1]+choice[2]+i)%2 == 1 { // half of them, in less time
				continue
			}
			p := api.Prog{Stations: 3, Ins: []api.In{in("x", 1)}}
			for flown, body := range choice {
				p.Flows = append(p.Flows, flow(fmt.Sprint("f", flown), at[flown], bodies[body]))
			}
			want, ok := tried(p)
			if !ok {
				tight++
				refuses(t, p, api.ErrTight)
				continue
			}
			isLate(t, p, want...)
			if !may(p, want) {
				t.Fatalf("%s: no one list is least: %v", shown(p), want)
			}
		}
	})
	if tight < 100 {
		t.Error(tight)
	}
}

// grownBody tells one that asks for some of these names, most of them at once.
func grownBody(next func(int) int, names []string, most int) api.Expr {
	var l []api.Expr
	for range next(most + 1) {
		l = append(l, ago(names[next(len(names))], max(0, next(9)-6)))
	}
	return all(l)
}

// grown tells a program of so many flows; some of them ask for any flow, at most so long ago, so that there are rings.
func grown(next func(int) int, ins, flows, stations, most, back int) api.Prog {
	p := api.Prog{Stations: stations}
	all := append(numbered("i", ins), numbered("f", flows)...)
	for _, name := range all[:ins] {
		p.Ins = append(p.Ins, in(name, 1+next(stations)))
	}
	for i, name := range all[ins:] {
		body := grownBody(next, all[:ins+i], most)
		if back > 0 && next(2) == 0 {
			body = of(api.ExAdd, ago(all[ins+next(flows)], next(back+1)), body)
		}
		p.Flows = append(p.Flows, flow(name, 1+next(stations), body))
	}
	for i := range p.Flows {
		j := i + next(flows-i)
		p.Flows[i], p.Flows[j] = p.Flows[j], p.Flows[i]
	}
	return p
}

// P14.1 to P14.4: many by chance; no flow of what Of answers may be less late; each Age is at least 0.
func TestMany(t *testing.T) {
	next := chance(14)
	tight, loose := 0, 0
	for range 1500 {
		p := grown(next, 1+next(2), 1+next(16), 1+next(5), 1+next(4), next(5))
		if names.Check(p) != api.OK {
			t.Fatal(shown(p))
		}
		l, ok := asTold(t, p)
		if !ok {
			tight++
			continue
		}
		loose++
		noneLess(t, p, l)
		for range 4 {
			later := slices.Clone(l)
			for i := range later {
				later[i] += next(3)
			}
			checks(t, p, later, may(p, later))
			if may(p, later) {
				agesAsTold(t, p, later)
			}
		}
		for i, f := range p.Flows {
			for _, r := range exprs.Refs(f.Body) {
				if age, e := Age(p, l, i, r); age < 0 || e != api.OK {
					t.Errorf("Age(%s, %v, %d, %v) = %d, %d", shown(p), l, i, r, age, e)
				}
			}
		}
	}
	if tight < 100 || loose < 100 {
		t.Error(tight, loose)
	}
}

// P14.1: as many flows as there may be, by chance.
func TestManyGreat(t *testing.T) {
	next := chance(15)
	tight, loose := 0, 0
	for range 12 {
		p := grown(next, 1+next(api.MaxIns), api.MaxFlows, api.MaxStations, 6, next(2)*(6+next(16)))
		if l, ok := asTold(t, p); ok {
			noneLess(t, p, l)
			loose++
		} else {
			tight++
		}
	}
	if tight < 2 || loose < 2 {
		t.Error(tight, loose)
	}
}

// P14.1, R1: as many flows as there may be, each of which asks for as many as it can, in rings that never stay: it ends soon.
func TestMostWishes(t *testing.T) {
	all128 := numbered("f", api.MaxFlows)
	p := api.Prog{Stations: api.MaxStations}
	for i := range all128 {
		var l []api.Expr
		for j := range (api.MaxSize + 1) / 2 {
			l = append(l, v(all128[(i+j+1)%api.MaxFlows]))
		}
		p.Flows = append(p.Flows, flow(all128[i], 3, all(l)))
	}
	isLate(t, p, make([]int, api.MaxFlows)...)
	checks(t, p, slices.Repeat([]int{api.MaxLate}, api.MaxFlows), true)
	p.Flows[77].Station = 4
	refuses(t, p, api.ErrTight)
}

// P14.4: flows of one station in a ring have Ages of 0 all, only if each asks at Ago 0; together their Ages are what they ask for longer ago.
func TestAgesOfRings(t *testing.T) {
	next := chance(16)
	for range 400 {
		count := 1 + next(6)
		agos := make([]int, count)
		for i := range agos {
			agos[i] = next(3) * next(2)
		}
		p := ring(slices.Repeat([]int{2}, count), agos)
		list, e := Of(p)
		if e != api.OK {
			t.Fatal(shown(p), e)
		}
		for range 5 {
			sum, asked := 0, 0
			for i := range agos {
				age, e := Age(p, list, i, api.Ref{Name: fmt.Sprint("f", (i+1)%count), Ago: agos[i]})
				if e != api.OK || age < 0 {
					t.Errorf("%s %v: %d, %d", shown(p), list, age, e)
				}
				sum += age
				asked += agos[i]
			}
			if sum != asked {
				t.Errorf("%s %v: %d, not %d", shown(p), list, sum, asked)
			}
			other := slices.Clone(list)
			other[next(count)] += next(3)
			if Check(p, other) {
				list = other
			}
		}
	}
}

// P14.4: likewise, drawn by something far, with just one that is asked for longer ago: there is the Age, wherever the ring is tightest.
func TestAgesOfDrawnRings(t *testing.T) {
	p := read(t, "x at 2, a at 1 = b + x, b at 1 = c, c at 1 = 0 -> pre a")
	isLate(t, p, 1, 0, 0)
	isOld(t, p, []int{1, 0, 0}, 0, api.Ref{Name: "b"}, 1)
	isOld(t, p, []int{1, 0, 0}, 1, api.Ref{Name: "c"}, 0)
	isOld(t, p, []int{1, 0, 0}, 2, api.Ref{Name: "a", Ago: 1}, 0)
	isOld(t, p, []int{1, 1, 0}, 0, api.Ref{Name: "b"}, 0)
	isOld(t, p, []int{1, 1, 0}, 1, api.Ref{Name: "c"}, 1)
	isOld(t, p, []int{1, 1, 1}, 2, api.Ref{Name: "a", Ago: 1}, 1)
	checks(t, p, []int{1, 0, 1}, false)
}

// P14.1: the order in which flows and what comes from without are declared makes no difference; nor do the stations' numbers.
func TestOrderAndNumbers(t *testing.T) {
	next := chance(17)
	for range 200 {
		p := grown(next, 2, 6, 4, 3, 2)
		l, e := Of(p)
		q := copied(p)
		slices.Reverse(q.Flows)
		slices.Reverse(q.Ins)
		q.Stations, q.Outs = 8, []string{q.Flows[0].Name, "i1"}
		for i := range q.Flows {
			q.Flows[i].Station = 9 - q.Flows[i].Station
			q.Flows[i].Default = 5
		}
		for i := range q.Ins {
			q.Ins[i].Station = 9 - q.Ins[i].Station
		}
		slices.Reverse(l)
		if m, f := Of(q); f != e || !slices.Equal(l, m) {
			t.Errorf("%s: %v, %d; %v, %d", shown(p), l, e, m, f)
		}
	}
}
