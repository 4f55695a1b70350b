package late

import (
	"fmt"
	"math"
	"slices"
	"strings"
	"sync"
	"testing"

	"belfry/api"
	"belfry/names"
	"belfry/progs"
)

func v(name string) api.Expr  { return api.Expr{Op: api.ExName, Name: name} }
func n(number int64) api.Expr { return api.Expr{Op: api.ExInt, N: number} }

func of(op api.Op, parts ...api.Expr) api.Expr { return api.Expr{Op: op, Args: slices.Clone(parts)} }

func in(name string, station int) api.In {
	return api.In{Name: name, Type: api.TyInt, Station: station}
}

func flow(name string, station int, body api.Expr) api.Flow {
	return api.Flow{Name: name, Type: api.TyInt, Station: station, Body: body}
}

// ago tells a Body that asks for a name so many instants ago.
func ago(name string, instants int) api.Expr {
	x := v(name)
	for range instants {
		x = of(api.ExPre, x)
	}
	return x
}

// read tells a program of a text as the chapter writes it: x at 1, s at 1 = 0 -> pre s + x, where what is not worked out comes from without.
func read(t *testing.T, s string) api.Prog {
	t.Helper()
	text := "stations 8;"
	for _, f := range strings.Split(s, ", ") {
		head, body, worked := strings.Cut(f, " = ")
		name, station, ok := strings.Cut(head, " at ")
		switch {
		case ok && worked:
			text += " flow " + name + ": int at " + station + " default 0 = " + body + ";"
		case ok:
			text += " in " + name + ": int at " + station + ";"
		}
	}
	p, at, e := progs.Parse(text)
	if e != api.OK {
		t.Fatalf("%q: %d at %d", s, e, at)
	}
	return p
}

// known is the chapter's P.
func known(t *testing.T) api.Prog {
	t.Helper()
	return read(t, "x at 1, s at 1 = 0 -> pre s + x, t at 2 = s, u at 1 = t + x")
}

// shown tells something, but not all of it.
func shown(x any) string { return fmt.Sprintf("%.300s", fmt.Sprint(x)) }

// isLate asks Of for a list.
func isLate(t *testing.T, p api.Prog, want ...int) {
	t.Helper()
	if l, e := Of(p); !slices.Equal(l, want) || e != api.OK {
		t.Errorf("Of(%s) = %s, %d, want %s", shown(p), shown(l), e, shown(want))
	}
}

// refuses asks Of for an error, and nothing beside it.
func refuses(t *testing.T, p api.Prog, want api.Errno) {
	t.Helper()
	if l, e := Of(p); len(l) != 0 || e != want {
		t.Errorf("Of(%s) = %s, %d, want %d", shown(p), shown(l), e, want)
	}
}

// checks asks Check for a yes or a no.
func checks(t *testing.T, p api.Prog, l []int, want bool) {
	t.Helper()
	if ok := Check(p, l); ok != want {
		t.Errorf("Check(%s, %s) = %t", shown(p), shown(l), ok)
	}
}

// isOld asks Age for a number of rounds.
func isOld(t *testing.T, p api.Prog, l []int, flow int, r api.Ref, want int) {
	t.Helper()
	if age, e := Age(p, l, flow, r); age != want || e != api.OK {
		t.Errorf("Age(%s, %s, %d, %v) = %d, %d, want %d", shown(p), shown(l), flow, r, age, e, want)
	}
}

// noAge asks Age for its error, and nothing beside it.
func noAge(t *testing.T, p api.Prog, l []int, flow int, r api.Ref) {
	t.Helper()
	if age, e := Age(p, l, flow, r); age != 0 || e != api.ErrArg {
		t.Errorf("Age(%s, %s, %d, %v) = %d, %d", shown(p), shown(l), flow, r, age, e)
	}
}

// edge is what the chapter says of a flow and of one that it asks for: their places (below 0: from without), and by how much more late the flow is, at least.
type edge struct {
	from, to, more int
	ref            api.Ref
}

// gather tells the names in a Body, each with the ExPre's around it, some of them more than once.
func gather(x api.Expr, pres int) []api.Ref {
	var l []api.Ref
	if x.Op == api.ExName {
		l = append(l, api.Ref{Name: x.Name, Ago: pres})
	}
	if x.Op == api.ExPre {
		pres++
	}
	for _, part := range x.Args {
		l = append(l, gather(part, pres)...)
	}
	return l
}

// edges tells all of a program whose names are all there.
func edges(p api.Prog) []edge {
	var l []edge
	for i, f := range p.Flows {
		for _, r := range gather(f.Body, 0) {
			to := slices.IndexFunc(p.Flows, func(g api.Flow) bool { return g.Name == r.Name })
			var station int
			if to >= 0 {
				station = p.Flows[to].Station
			} else {
				station = p.Ins[slices.IndexFunc(p.Ins, func(head api.In) bool { return head.Name == r.Name })].Station
			}
			e := edge{from: i, to: to, more: -r.Ago, ref: r}
			if station != f.Station {
				e.more++
			}
			l = append(l, e)
		}
	}
	return l
}

// old tells what Age answers, in the chapter's words.
func (e edge) old(l []int) int {
	other := 0
	if e.to >= 0 {
		other = l[e.to]
	}
	return l[e.from] - other - e.more
}

// may tells whether flows may be so late, in the chapter's words.
func may(p api.Prog, l []int) bool {
	if len(l) != len(p.Flows) || len(l) > 0 && (slices.Min(l) < 0 || slices.Max(l) > api.MaxLate) {
		return false
	}
	return !slices.ContainsFunc(edges(p), func(e edge) bool { return e.old(l) < 0 })
}

// unlinked stands for steps from a flow to one that it has nothing to do with.
const unlinked = math.MinInt / 4

// told tells how late flows are, by the longest way from each of them to each one and to what comes from without; false, if one grows by going round.
func told(p api.Prog) ([]int, bool) {
	count := len(p.Flows)
	far := make([][]int, count)
	l := make([]int, count)
	for i := range far {
		far[i] = slices.Repeat([]int{unlinked}, count)
		far[i][i] = 0
	}
	begin := slices.Repeat([]int{0}, count)
	for _, e := range edges(p) {
		if e.to >= 0 {
			far[e.from][e.to] = max(far[e.from][e.to], e.more)
		} else {
			begin[e.from] = max(begin[e.from], e.more)
		}
	}
	for over := range count {
		for i := range count {
			for j := range count {
				far[i][j] = max(far[i][j], far[i][over]+far[over][j], unlinked)
			}
		}
	}
	for i := range far {
		if far[i][i] > 0 {
			return nil, false
		}
		for j := range far {
			l[i] = max(l[i], far[i][j]+begin[j])
		}
	}
	return l, true
}

// asTold holds all calls against the chapter's words, and tells what Of answers.
func asTold(t *testing.T, p api.Prog) ([]int, bool) {
	t.Helper()
	want, ok := told(p)
	if !ok {
		refuses(t, p, api.ErrTight)
		return nil, false
	}
	isLate(t, p, want...)
	checks(t, p, want, may(p, want))
	return want, true
}

// agesAsTold asks Age for all that the flows ask for.
func agesAsTold(t *testing.T, p api.Prog, l []int) {
	t.Helper()
	for _, e := range edges(p) {
		isOld(t, p, l, e.from, e.ref, e.old(l))
	}
}

// noneLess holds that no flow may be less late, with all others as they are.
func noneLess(t *testing.T, p api.Prog, l []int) {
	t.Helper()
	for i := range l {
		l[i]--
		checks(t, p, l, false)
		if may(p, l) {
			t.Errorf("%s: flow %d may be less late than %d", shown(p), i, l[i]+1)
		}
		l[i]++
	}
}

// chance tells numbers that look like chance and are the same in each run.
func chance(seed uint64) func(below int) int {
	return func(below int) int {
		seed = seed*6364136223846793005 + 1442695040888963407
		return int(seed >> 33 % uint64(below))
	}
}

// numbered tells that many names that differ.
func numbered(start string, count int) []string {
	var l []string
	for i := range count {
		l = append(l, fmt.Sprint(start, i))
	}
	return l
}

// chain tells flows each of which asks for the one ahead of it, so long ago, the first one for an In x at 1; their stations are handed in.
func chain(stations []int, instants int) api.Prog {
	p := api.Prog{Stations: api.MaxStations, Ins: []api.In{in("x", 1)}}
	last := "x"
	for i, station := range stations {
		name := fmt.Sprint("f", i)
		p.Flows = append(p.Flows, flow(name, station, ago(last, instants)))
		last = name
	}
	return p
}

// ring tells flows of these stations, each of which asks for the next one, so long ago as told for it, the last one for the first.
func ring(stations, agos []int) api.Prog {
	p := api.Prog{Stations: api.MaxStations}
	for i, station := range stations {
		p.Flows = append(p.Flows, flow(fmt.Sprint("f", i), station, ago(fmt.Sprint("f", (i+1)%len(stations)), agos[i])))
	}
	return p
}

// all tells a Body that asks for all these.
func all(l []api.Expr) api.Expr {
	if len(l) == 0 {
		return n(7)
	}
	if len(l) == 1 {
		return l[0]
	}
	return of(api.ExAdd, all(l[:len(l)/2]), all(l[len(l)/2:]))
}

func sameBody(x, y api.Expr) bool {
	return x.Op == y.Op && x.N == y.N && x.Name == y.Name && slices.EqualFunc(x.Args, y.Args, sameBody)
}

func same(p, q api.Prog) bool {
	return p.Stations == q.Stations && slices.Equal(p.Ins, q.Ins) && slices.Equal(p.Outs, q.Outs) &&
		slices.EqualFunc(p.Flows, q.Flows, func(f, g api.Flow) bool {
			return f.Name == g.Name && f.Type == g.Type && f.Station == g.Station && f.Default == g.Default && sameBody(f.Body, g.Body)
		})
}

func copiedBody(x api.Expr) api.Expr {
	x.Args = slices.Clone(x.Args)
	for i, part := range x.Args {
		x.Args[i] = copiedBody(part)
	}
	return x
}

// copied tells the same in memory of its own.
func copied(p api.Prog) api.Prog {
	p.Ins, p.Flows, p.Outs = slices.Clone(p.Ins), slices.Clone(p.Flows), slices.Clone(p.Outs)
	for i, f := range p.Flows {
		p.Flows[i].Body = copiedBody(f.Body)
	}
	return p
}

// P14.1 to P14.3: the chapter's examples.
func TestExamples(t *testing.T) {
	p := known(t)
	isLate(t, p, 0, 1, 2)
	l, _ := Of(p)
	isOld(t, p, l, 2, api.Ref{Name: "x"}, 2)
	isOld(t, p, l, 1, api.Ref{Name: "s"}, 0)
	isOld(t, p, l, 0, api.Ref{Name: "s", Ago: 1}, 1)
	refuses(t, read(t, "s at 1 = t, t at 2 = 0 -> pre s"), api.ErrTight)
}

// P14.1 to P14.3, R4: no flows at all; a list that is empty and one that is nil mean the same.
func TestNothing(t *testing.T) {
	for _, p := range []api.Prog{
		{Stations: 1}, {Stations: 8, Ins: []api.In{}, Flows: []api.Flow{}, Outs: []string{}}, {Stations: 1, Flows: make([]api.Flow, 0, 3)},
		{Stations: 3, Ins: []api.In{in("a", 1), in("b", 3)}, Outs: []string{"b"}},
	} {
		isLate(t, p)
		checks(t, p, nil, true)
		checks(t, p, []int{}, true)
		checks(t, p, make([]int, 0, 5), true)
		checks(t, p, []int{0}, false)
		for _, place := range []int{-1, 0, 1} {
			noAge(t, p, nil, place, api.Ref{})
			noAge(t, p, nil, place, api.Ref{Name: "a"})
			noAge(t, p, []int{0}, place, api.Ref{Name: "b"})
		}
	}
}

// P14.1: flows of one station alone are not late, whatever they ask for and however long ago.
func TestOneStation(t *testing.T) {
	for _, s := range []string{
		"f at 1 = 1", "x at 1, f at 1 = x", "x at 1, f at 1 = x, g at 1 = f, h at 1 = g + pre f + x", "f at 3 = 0 -> pre f, g at 3 = f + pre g", "h at 2 = g, g at 2 = f, f at 2 = 3",
		"f at 1 = g, g at 1 = f", "f at 1 = f", "f at 1 = pre pre g, g at 1 = pre f",
	} {
		p := read(t, s)
		isLate(t, p, make([]int, len(p.Flows))...)
	}
	isLate(t, chain(slices.Repeat([]int{1}, api.MaxFlows), 0), make([]int, api.MaxFlows)...)
	isLate(t, chain(slices.Repeat([]int{1}, api.MaxFlows), 2), make([]int, api.MaxFlows)...)
}

// P14.1: flows of several stations that ask for nothing, or each station for its own, are not late.
func TestEachForItself(t *testing.T) {
	isLate(t, read(t, "f at 1 = 1, g at 2 = 2, h at 8 = 3"), 0, 0, 0)
	isLate(t, read(t, "x at 1, y at 2, f at 1 = x, g at 2 = y, h at 1 = f + pre x, k at 2 = g + y"), 0, 0, 0, 0)
}

// P14.1: a chain that changes the station at each step, at some, at none.
func TestChains(t *testing.T) {
	for _, c := range []struct {
		stations, agos0, agos1, agos2 []int
	}{
		{[]int{1}, []int{0}, []int{0}, []int{0}},
		{[]int{2}, []int{1}, []int{0}, []int{0}},
		{[]int{2, 1, 2, 1}, []int{1, 2, 3, 4}, []int{0, 0, 0, 0}, []int{0, 0, 0, 0}},
		{[]int{2, 3, 4, 5, 6, 7, 8, 1}, []int{1, 2, 3, 4, 5, 6, 7, 8}, make([]int, 8), make([]int, 8)},
		{[]int{1, 1, 2, 2, 2, 3, 1}, []int{0, 0, 1, 1, 1, 2, 3}, make([]int, 7), make([]int, 7)},
		{[]int{1, 1, 1}, []int{0, 0, 0}, make([]int, 3), make([]int, 3)},
		{[]int{5, 5, 5}, []int{1, 1, 1}, make([]int, 3), make([]int, 3)},
	} {
		isLate(t, chain(c.stations, 0), c.agos0...)
		isLate(t, chain(c.stations, 1), c.agos1...)
		isLate(t, chain(c.stations, 2), c.agos2...)
	}
	for _, count := range []int{1, 2, 127, api.MaxFlows} {
		var stations, want []int
		for i := range count {
			stations = append(stations, 1+(i+1)%2)
			want = append(want, i+1)
		}
		isLate(t, chain(stations, 0), want...)
		p := chain(stations, 0)
		slices.Reverse(p.Flows)
		slices.Reverse(want)
		isLate(t, p, want...)
		p = chain(stations, 0)
		p.Flows[0].Body = n(0) // without the In, each is a round less late
		isLate(t, p, upTo(count)...)
		if count > 1 {
			p.Flows[0].Body = v(fmt.Sprint("f", count-1)) // the chain's end tied to its beginning
			refuses(t, p, api.ErrTight)
		}
	}
}

func upTo(count int) []int {
	l := make([]int, count)
	for i := range l {
		l[i] = i
	}
	return l
}

// P14.1: a step that asks for longer ago takes as much from how late the next one is, down to 0 and no further.
func TestAgoTakesAway(t *testing.T) {
	isLate(t, read(t, "x at 1, a at 2 = x, b at 1 = a, c at 2 = b, d at 2 = pre c"), 1, 2, 3, 2)
	isLate(t, read(t, "x at 1, a at 2 = x, b at 1 = a, c at 2 = b, d at 2 = pre pre c"), 1, 2, 3, 1)
	isLate(t, read(t, "x at 1, a at 2 = x, b at 1 = a, c at 2 = b, d at 2 = pre pre pre c"), 1, 2, 3, 0)
	isLate(t, read(t, "x at 1, a at 2 = x, b at 1 = a, c at 2 = b, d at 2 = pre pre pre pre c"), 1, 2, 3, 0)
	isLate(t, read(t, "x at 1, a at 2 = x, b at 1 = a, c at 2 = b, d at 1 = pre pre pre c"), 1, 2, 3, 1)
	isLate(t, read(t, "x at 1, a at 2 = x, b at 1 = a, c at 2 = b, d at 1 = pre pre pre pre c, e at 2 = d"), 1, 2, 3, 0, 1)
	isLate(t, read(t, "x at 1, a at 2 = pre x, b at 1 = pre a, c at 2 = b"), 0, 0, 1)
}

// P14.1: what comes from without, at the same station and at another one; at once and longer ago.
func TestFromWithout(t *testing.T) {
	isLate(t, read(t, "x at 1, f at 1 = x, g at 2 = x, h at 1 = pre x, k at 2 = pre x, m at 2 = pre pre x"), 0, 1, 0, 0, 0)
	isLate(t, read(t, "x at 1, y at 2, f at 1 = x + y, g at 2 = x + y, h at 3 = x + y, k at 3 = pre x + pre y"), 1, 1, 1, 0)
	isLate(t, read(t, "x at 2, f at 1 = x + pre x, g at 1 = pre x + x"), 1, 1)
	p := read(t, "x at 2, f at 1 = x + pre x + pre pre x, g at 2 = x + pre pre x")
	isLate(t, p, 1, 0)
	for instants, want := range []int{0, 1, 2} {
		isOld(t, p, []int{1, 0}, 0, api.Ref{Name: "x", Ago: instants}, want)
	}
	isOld(t, p, []int{1, 0}, 1, api.Ref{Name: "x"}, 0)
	isOld(t, p, []int{1, 0}, 1, api.Ref{Name: "x", Ago: 2}, 2)
	isOld(t, p, []int{7, 9}, 0, api.Ref{Name: "x"}, 6)
	isOld(t, p, []int{7, 9}, 1, api.Ref{Name: "x", Ago: 2}, 11)
	checks(t, p, []int{0, 0}, false)
}

// P14.1: a flow that asks for the same name at several Agos is as late as the least of them asks for.
func TestSeveralAgos(t *testing.T) {
	for _, body := range []string{"b", "b + pre b", "pre b + b", "pre pre b + pre b + b", "pre (b + pre b) + b", "b + b"} {
		isLate(t, read(t, "x at 1, a at 2 = x, b at 1 = a, f at 2 = "+body), 1, 2, 3)
	}
	for _, body := range []string{"pre b", "pre b + pre pre b", "pre pre b + pre b", "pre (b + pre b)", "pre (pre b + b)"} {
		isLate(t, read(t, "x at 1, a at 2 = x, b at 1 = a, f at 2 = "+body), 1, 2, 2)
	}
	p := read(t, "x at 1, a at 2 = x, f at 1 = a + pre a + pre pre pre a")
	for instants, want := range map[int]int{0: 0, 1: 1, 3: 3} {
		isOld(t, p, []int{1, 2}, 1, api.Ref{Name: "a", Ago: instants}, want)
		isOld(t, p, []int{1, 5}, 1, api.Ref{Name: "a", Ago: instants}, want+3)
	}
	for _, instants := range []int{-1, 2, 4, math.MaxInt, math.MinInt} {
		noAge(t, p, []int{1, 2}, 1, api.Ref{Name: "a", Ago: instants})
	}
}

// P14.1, P14.3: a flow that asks for itself is no later by that, however late it is.
func TestItself(t *testing.T) {
	for _, body := range []string{"f", "f + pre f", "0 -> pre f", "pre pre pre f"} {
		isLate(t, read(t, "f at 1 = "+body), 0)
		isLate(t, read(t, "x at 2, f at 1 = x + ("+body+")"), 1)
	}
	p := read(t, "f at 1 = f + pre f + pre pre f")
	for _, late := range []int{0, 1, 999, api.MaxLate} {
		checks(t, p, []int{late}, true)
		for instants := range 3 {
			isOld(t, p, []int{late}, 0, api.Ref{Name: "f", Ago: instants}, instants)
		}
	}
}

// P14.1: as late as the latest of several ways asks for.
func TestLatestWay(t *testing.T) {
	isLate(t, read(t, "x at 1, a at 2 = x, b at 3 = a, c at 4 = b, d at 4 = a + c, e at 4 = x + a"), 1, 2, 3, 3, 2)
	isLate(t, read(t, "e at 1 = d + a, d at 2 = c + a, c at 1 = b, b at 2 = a, a at 1 = 1"), 4, 3, 2, 1, 0)
	isLate(t, read(t, "x at 1, a at 2 = x, b at 3 = a, f at 3 = pre pre b + x"), 1, 2, 1)
	isLate(t, read(t, "x at 3, a at 2 = x, b at 3 = a, f at 3 = pre b + a + x"), 1, 2, 2)
}

// P14.1: rings of flows within one station: none of them makes flows late, nor grows.
func TestRingsWithin(t *testing.T) {
	for _, count := range []int{1, 2, 3, 7, api.MaxFlows} {
		for _, instants := range []int{0, 1, 2} {
			p := ring(slices.Repeat([]int{4}, count), slices.Repeat([]int{instants}, count))
			isLate(t, p, make([]int, count)...)
			agesAsTold(t, p, slices.Repeat([]int{3}, count))
		}
	}
	// One that asks for what is late draws all of a ring along, but for what is asked for longer ago.
	isLate(t, read(t, "x at 2, a at 1 = b + x, b at 1 = c, c at 1 = a"), 1, 1, 1)
	isLate(t, read(t, "x at 2, a at 1 = b + x, b at 1 = c, c at 1 = pre a"), 1, 0, 0)
	isLate(t, read(t, "x at 2, y at 2 = x, z at 3 = pre x + x, a at 1 = b + z, b at 1 = c, c at 1 = pre a"), 0, 1, 2, 1, 1)
}

// P14.1: rings across stations: what is asked for longer ago is just enough, or one too little.
func TestRingsAcross(t *testing.T) {
	isLate(t, read(t, "a at 1 = pre b, b at 2 = pre a"), 0, 0)
	isLate(t, read(t, "a at 1 = b, b at 2 = pre pre a"), 1, 0)
	isLate(t, read(t, "a at 1 = pre pre b, b at 2 = a"), 0, 1)
	refuses(t, read(t, "a at 1 = b, b at 2 = pre a"), api.ErrTight)
	refuses(t, read(t, "a at 1 = pre b, b at 2 = a"), api.ErrTight)
	refuses(t, read(t, "a at 1 = b, b at 2 = a"), api.ErrTight)
	isLate(t, read(t, "a at 1 = b, b at 2 = c, c at 3 = pre pre pre a"), 2, 1, 0)
	refuses(t, read(t, "a at 1 = b, b at 2 = c, c at 3 = pre pre a"), api.ErrTight)
	refuses(t, read(t, "a at 1 = b, b at 2 = c, c at 3 = pre pre pre a + pre pre a"), api.ErrTight)
	isLate(t, read(t, "a at 1 = b, b at 1 = c, c at 2 = pre pre a"), 1, 1, 0)
	refuses(t, read(t, "a at 1 = b, b at 1 = c, c at 2 = pre a"), api.ErrTight)
	refuses(t, read(t, "x at 1, d at 1 = x, a at 1 = b, b at 2 = pre a, c at 3 = d"), api.ErrTight)
	isLate(t, read(t, "x at 3, a at 1 = pre b + x, b at 2 = pre a"), 1, 1)
	isLate(t, read(t, "x at 3, y at 4 = x, a at 1 = pre b + y, b at 2 = pre a, c at 5 = b"), 1, 2, 2, 3)
}

// P14.1: long rings, whose stations change at each step or at some, with all that is asked for longer ago at one place.
func TestLongRings(t *testing.T) {
	for _, count := range []int{2, 5, 16, 30} {
		for place := range count {
			var stations []int
			for i := range count {
				stations = append(stations, 1+i*5%3)
			}
			changes := 0
			for i := range stations {
				if stations[i] != stations[(i+1)%count] {
					changes++
				}
			}
			agos := make([]int, count)
			agos[place] = changes
			p := ring(stations, agos)
			if l, ok := asTold(t, p); !ok || slices.Max(l) < changes-1 {
				t.Errorf("%s: %v", shown(p), l)
			}
			agos[place]--
			refuses(t, ring(stations, agos), api.ErrTight)
		}
	}
	for _, turn := range []int{0, 1, 64, 127} {
		stations, agos := make([]int, api.MaxFlows), make([]int, api.MaxFlows)
		for i := range stations {
			stations[i], agos[i] = 1+i%8, 1
		}
		p := ring(stations, agos)
		p.Flows = append(slices.Clone(p.Flows[turn:]), p.Flows[:turn]...)
		isLate(t, p, make([]int, api.MaxFlows)...)
		p.Flows[5].Body = of(api.ExPre, p.Flows[5].Body)
		p.Flows[90].Body = p.Flows[90].Body.Args[0]
		if l, ok := asTold(t, p); !ok || slices.Max(l) != 1 {
			t.Errorf("%v", l)
		}
		p.Flows[91].Body = p.Flows[91].Body.Args[0]
		refuses(t, p, api.ErrTight)
	}
}

// steps tells a wish of each flow for the one ahead of it, a round on its way each, the last flow first if backward; as many as there are flows, but for the first.
func steps(flows int, backward bool) func(yield func(wish) bool) {
	return func(yield func(wish) bool) {
		for i := 1; i < flows; i++ {
			flow := i
			if backward {
				flow = flows - i
			}
			if !yield(wish{flow: flow, of: flow - 1, way: 1}) {
				return
			}
		}
	}
}

// P14.1: a chain just as late as MaxLate allows, and one later. (No program that may be has so many flows.)
func TestMostLate(t *testing.T) {
	for _, backward := range []bool{false, true} {
		for _, flows := range []int{1, 2, api.MaxLate, api.MaxLate + 1} {
			if l, ok := least(flows, steps(flows, backward)); !ok || !slices.Equal(l, upTo(flows)) {
				t.Error(flows, backward, shown(l), ok)
			}
		}
		for _, flows := range []int{api.MaxLate + 2, api.MaxLate + 3, 2000} {
			if l, ok := least(flows, steps(flows, backward)); ok || l != nil {
				t.Error(flows, backward, shown(l), ok)
			}
		}
	}
	p := read(t, "x at 1, a at 1 = x, b at 2 = a, c at 1 = a, d at 2 = 0 -> pre b")
	checks(t, p, []int{999, 1000, 1000, 1000}, true)
	checks(t, p, []int{999, 1000, 999, 999}, true)
	checks(t, p, []int{1000, 1000, 1000, 1000}, false)
	checks(t, p, []int{1000, 1001, 1000, 1000}, false)
	isOld(t, p, []int{999, 1000, 1000, 1000}, 1, api.Ref{Name: "a"}, 0)
	isOld(t, p, []int{999, 1000, 1000, 1000}, 0, api.Ref{Name: "x"}, 999)
	isOld(t, p, []int{0, 1, 1000, 1000}, 3, api.Ref{Name: "b", Ago: 1}, 1000)
}

// P14.2: lists that are too short, too long, empty; with a number below 0, at MaxLate and above it.
func TestLists(t *testing.T) {
	p := known(t)
	for _, l := range [][]int{{0, 1, 2}, {0, 1, 3}, {0, 2, 3}, {1, 2, 3}, {5, 6, 1000}, {998, 999, 1000}, {0, 999, 1000}, {0, 1, 1000}, {0, 3, 9}} {
		checks(t, p, l, true)
		agesAsTold(t, p, l)
	}
	for _, l := range [][]int{
		nil, {}, {0}, {0, 1}, {0, 1, 2, 3}, {0, 1, 2, 0}, {0, 1, 2, 2, 2}, make([]int, 500),
		{-1, 1, 2}, {0, -1, 2}, {0, 1, -1}, {-1, 0, 1}, {math.MinInt, 1, 2}, {0, 1, 1001}, {0, 1001, 1002}, {1001, 1002, 1003}, {0, 1, math.MaxInt}, {math.MaxInt, math.MinInt, 0},
		{0, 0, 2}, {0, 0, 0}, {0, 1, 1}, {0, 1, 0}, {1, 1, 2}, {1, 2, 2}, {0, 2, 2}, {999, 1000, 1000}, {2, 1, 0},
	} {
		checks(t, p, l, false)
		noAge(t, p, l, 2, api.Ref{Name: "x"})
		noAge(t, p, l, 0, api.Ref{Name: "s", Ago: 1})
	}
	checks(t, read(t, "a at 1 = 1"), []int{api.MaxLate}, true)
	checks(t, read(t, "a at 1 = 1"), []int{api.MaxLate + 1}, false)
	checks(t, read(t, "a at 1 = 1"), []int{-1}, false)
	checks(t, read(t, "x at 2, a at 1 = x"), []int{0}, false)
	checks(t, read(t, "x at 2, a at 1 = x"), []int{1}, true)
	checks(t, read(t, "x at 1, a at 1 = x"), []int{0}, true)
}

// P14.2: one too little at one place; later than need be, all by as much or one more late than the other.
func TestOneTooLittle(t *testing.T) {
	for _, s := range []string{
		"x at 1, s at 1 = 0 -> pre s + x, t at 2 = s, u at 1 = t + x",
		"x at 1, a at 2 = x, b at 3 = a, c at 4 = b, d at 4 = a + c, e at 4 = x + a",
		"a at 1 = b, b at 2 = c, c at 3 = pre pre pre a", "a at 1 = b, b at 2 = c, c at 3 = pre pre pre pre a",
		"x at 3, y at 4 = x, a at 1 = pre b + y, b at 2 = pre a, c at 5 = b",
	} {
		p := read(t, s)
		l, ok := asTold(t, p)
		if !ok {
			continue
		}
		noneLess(t, p, l)
		agesAsTold(t, p, l)
		for _, more := range []int{1, 10, api.MaxLate - slices.Max(l), api.MaxLate - slices.Max(l) + 1} {
			later := slices.Clone(l)
			for i := range later {
				later[i] += more
			}
			checks(t, p, later, later[slices.Index(l, slices.Max(l))] <= api.MaxLate)
		}
		for i := range l {
			later := slices.Clone(l)
			later[i] += 5
			checks(t, p, later, may(p, later))
		}
	}
	ringed := read(t, "a at 1 = pre b, b at 2 = pre a")
	checks(t, ringed, []int{3, 3}, true)
	checks(t, ringed, []int{3, 4}, false)
	checks(t, ringed, []int{4, 3}, false)
	looser := read(t, "a at 1 = pre b, b at 2 = pre pre a")
	checks(t, looser, []int{3, 3}, true)
	checks(t, looser, []int{3, 4}, false)
	checks(t, looser, []int{4, 3}, true)
	checks(t, looser, []int{5, 3}, false)
}

// P14.2: where flows may not be late in any way, no list is one.
func TestNoList(t *testing.T) {
	p := read(t, "s at 1 = t, t at 2 = 0 -> pre s")
	for i := range 40 {
		for j := range 40 {
			checks(t, p, []int{i, j}, false)
			noAge(t, p, []int{i, j}, 0, api.Ref{Name: "t"})
		}
	}
	checks(t, p, []int{1000, 1000}, false)
}

// P14.3: Age of each Ref that a flow asks for; of a Ref with another Ago or name; of places where there is no flow.
func TestAge(t *testing.T) {
	p := known(t)
	l := []int{0, 3, 9}
	isOld(t, p, l, 0, api.Ref{Name: "s", Ago: 1}, 1)
	isOld(t, p, l, 0, api.Ref{Name: "x"}, 0)
	isOld(t, p, l, 1, api.Ref{Name: "s"}, 2)
	isOld(t, p, l, 2, api.Ref{Name: "t"}, 5)
	isOld(t, p, l, 2, api.Ref{Name: "x"}, 9)
	for place, refs := range [][]api.Ref{
		{{Name: "s"}, {Name: "s", Ago: 2}, {Name: "s", Ago: -1}, {Name: "x", Ago: 1}, {Name: "x", Ago: -1}, {Name: "t"}, {Name: "u"}},
		{{Name: "s", Ago: 1}, {Name: "x"}, {Name: "t"}, {Name: "u"}},
		{{Name: "t", Ago: 1}, {Name: "x", Ago: 1}, {Name: "s"}, {Name: "s", Ago: 1}, {Name: "u"}},
	} {
		for _, r := range append(refs, api.Ref{}, api.Ref{Name: "none"}, api.Ref{Name: "X"}, api.Ref{Name: "pre"}, api.Ref{Name: "\xff", Ago: math.MaxInt}, api.Ref{Name: "x", Ago: math.MinInt}, api.Ref{Name: "s", Ago: math.MaxInt}, api.Ref{Name: "x "}) {
			noAge(t, p, l, place, r)
		}
	}
	for _, place := range []int{-1, -2, -3, 3, 4, 128, math.MaxInt, math.MinInt} {
		for _, r := range []api.Ref{{Name: "x"}, {Name: "s"}, {Name: "s", Ago: 1}, {Name: "t"}, {}} {
			noAge(t, p, l, place, r)
		}
	}
}

// P14.3: names that differ in a letter's size or in their length alone are not taken for one another.
func TestLikeNames(t *testing.T) {
	p := read(t, "a at 1, A at 2, aa at 3 = a + A + pre a, Aa at 3 = aa + pre A")
	isLate(t, p, 1, 1)
	isOld(t, p, []int{1, 4}, 1, api.Ref{Name: "aa"}, 3)
	isOld(t, p, []int{1, 4}, 1, api.Ref{Name: "A", Ago: 1}, 4)
	noAge(t, p, []int{1, 4}, 1, api.Ref{Name: "a", Ago: 1})
	noAge(t, p, []int{1, 4}, 1, api.Ref{Name: "Aa"})
	noAge(t, p, []int{1, 4}, 1, api.Ref{Name: "A"})
}

// P14.1 to P14.3: a program that names.Check refuses, with each of its errors.
func TestRefused(t *testing.T) {
	spoiled := map[string]func(p *api.Prog) api.Errno{
		"no stations":        func(p *api.Prog) api.Errno { p.Stations = 0; return api.ErrArg },
		"less than none":     func(p *api.Prog) api.Errno { p.Stations = math.MinInt; return api.ErrArg },
		"too many":           func(p *api.Prog) api.Errno { p.Stations = api.MaxStations + 1; return api.ErrArg },
		"an In's station":    func(p *api.Prog) api.Errno { p.Ins[0].Station = 9; return api.ErrArg },
		"a flow's station":   func(p *api.Prog) api.Errno { p.Flows[1].Station = 0; return api.ErrArg },
		"a flow's type":      func(p *api.Prog) api.Errno { p.Flows[0].Type = 3; return api.ErrArg },
		"a flow's name":      func(p *api.Prog) api.Errno { p.Flows[2].Name = "pre"; return api.ErrArg },
		"a Body":             func(p *api.Prog) api.Errno { p.Flows[2].Body = api.Expr{}; return api.ErrArg },
		"a deep Body":        func(p *api.Prog) api.Errno { p.Flows[2].Body = ago("x", api.MaxDeep); return api.ErrArg },
		"an out's name":      func(p *api.Prog) api.Errno { p.Outs = []string{"1"}; return api.ErrArg },
		"two of one name":    func(p *api.Prog) api.Errno { p.Flows[2].Name = "t"; return api.ErrName },
		"an In's name again": func(p *api.Prog) api.Errno { p.Flows[2].Name = "x"; return api.ErrName },
		"not there":          func(p *api.Prog) api.Errno { p.Flows[2].Body = v("none"); return api.ErrName },
		"not there, ago":     func(p *api.Prog) api.Errno { p.Flows[0].Body = ago("none", 3); return api.ErrName },
		"an out not there":   func(p *api.Prog) api.Errno { p.Outs = []string{"none"}; return api.ErrName },
		"an out twice":       func(p *api.Prog) api.Errno { p.Outs = []string{"u", "u"}; return api.ErrName },
		"both": func(p *api.Prog) api.Errno {
			p.Flows[2].Body, p.Flows[0].Type = v("none"), 0
			return api.ErrArg
		},
		"tight, too": func(p *api.Prog) api.Errno {
			p.Flows[0].Body, p.Outs = v("t"), []string{"none"}
			return api.ErrName
		},
		"tight, and no stations": func(p *api.Prog) api.Errno {
			p.Flows[0].Body, p.Stations = v("t"), 0
			return api.ErrArg
		},
	}
	for what, spoil := range spoiled {
		p := known(t)
		want := spoil(&p)
		if e := names.Check(p); e != want {
			t.Fatal(what, e)
		}
		refuses(t, p, want)
		for _, l := range [][]int{{0, 1, 2}, {5, 500, 1000}, nil, {0}, {-1, 1, 2}} {
			checks(t, p, l, false)
			noAge(t, p, l, 1, api.Ref{Name: "s"})
			noAge(t, p, l, 0, api.Ref{Name: "x"})
			noAge(t, p, l, -1, api.Ref{})
		}
	}
	many := api.Prog{Stations: 1}
	for _, name := range numbered("f", api.MaxFlows+1) {
		many.Flows = append(many.Flows, flow(name, 1, n(1)))
	}
	refuses(t, many, api.ErrArg)
	checks(t, many, make([]int, api.MaxFlows+1), false)
	many.Flows = many.Flows[:api.MaxFlows]
	isLate(t, many, make([]int, api.MaxFlows)...)
	checks(t, many, make([]int, api.MaxFlows), true)
}

// R1: what may not be, and a Body whose parts hold themselves, are refused, not gone into.
func TestOdd(t *testing.T) {
	odd := []string{"", "pre", "a b", "é", "\xff", "a\x00", strings.Repeat("n", api.MaxName+1)}
	for _, name := range odd {
		p := api.Prog{Stations: 2, Flows: []api.Flow{flow(name, 1, v(name))}}
		refuses(t, p, api.ErrArg)
		checks(t, p, []int{0}, false)
		noAge(t, p, []int{0}, 0, api.Ref{Name: name})
	}
	round := of(api.ExAdd, n(1), n(2))
	round.Args[0] = round
	deep := v("f")
	for range 1 << 15 {
		deep = of(api.ExPre, deep)
	}
	for _, body := range []api.Expr{round, deep, of(api.ExPre), of(77, v("f")), {Op: api.ExName, Name: "f", Args: []api.Expr{v("f")}}, of(api.ExAdd, slices.Repeat([]api.Expr{v("f")}, 1<<16)...)} {
		p := api.Prog{Stations: 2, Flows: []api.Flow{flow("f", 1, body)}}
		refuses(t, p, api.ErrArg)
		checks(t, p, []int{0}, false)
		noAge(t, p, []int{0}, 0, api.Ref{Name: "f"})
	}
	refuses(t, api.Prog{}, api.ErrArg)
	checks(t, api.Prog{}, nil, false)
	noAge(t, api.Prog{}, nil, 0, api.Ref{})
	noAge(t, known(t), make([]int, 1<<20), 1<<19, api.Ref{Name: "x"})
}

// P14.1 to P14.3: Bodies as deep as they may be: asked for as long ago as may be.
func TestLongestAgo(t *testing.T) {
	const most = api.MaxDeep - 1
	p := api.Prog{Stations: 8, Ins: []api.In{in("x", 1)}, Flows: []api.Flow{flow("f", 2, ago("x", most)), flow("g", 3, ago("f", most))}}
	isLate(t, p, 0, 0)
	isOld(t, p, []int{0, 0}, 0, api.Ref{Name: "x", Ago: most}, most-1)
	isOld(t, p, []int{0, 1000}, 1, api.Ref{Name: "f", Ago: most}, 1000+most-1)
	checks(t, p, []int{30, 0}, true)
	checks(t, p, []int{31, 0}, false)
	isOld(t, p, []int{30, 0}, 1, api.Ref{Name: "f", Ago: most}, 0)
	for _, count := range []int{most, most + 1} { // a ring of so many stations' changes, all of them made good at one place
		var stations []int
		for i := range count {
			stations = append(stations, 1+i%4)
		}
		if count%4 == 1 {
			stations[count-1] = 7
		}
		agos := make([]int, count)
		agos[3] = most
		if l, ok := asTold(t, ring(stations, agos)); ok != (count == most) || ok && slices.Max(l) != count-1 {
			t.Error(count, l, ok)
		}
	}
}

// spare tells a list with room behind it, in which something stands.
func spare[T any](l []T, behind T) []T {
	l = append(slices.Clone(l), behind, behind)
	return l[:len(l)-2]
}

// R4: what is handed in stays as it was, spare room too.
func TestArgumentsStay(t *testing.T) {
	for _, s := range []string{"x at 1, s at 1 = 0 -> pre s + x, t at 2 = s, u at 1 = t + x", "a at 1 = b, b at 2 = pre a, c at 1 = none", "a at 1 = b, b at 2 = pre a, c at 1 = 1"} {
		p := read(t, s)
		p.Outs = []string{p.Flows[0].Name}
		p.Ins, p.Flows, p.Outs = spare(p.Ins, in("y", 5)), spare(p.Flows, flow("z", 7, v("y"))), spare(p.Outs, "q")
		whole := func() api.Prog {
			q := p
			q.Ins, q.Flows, q.Outs = p.Ins[:len(p.Ins)+2], p.Flows[:len(p.Flows)+2], p.Outs[:len(p.Outs)+2]
			return q
		}
		before := copied(whole())
		for _, l := range [][]int{{0, 1, 2}, {0, 1, 1}, {0}, {-5, 2000, 7}} {
			list := spare(l, 77)
			Of(p)
			Check(p, list)
			Age(p, list, 1, api.Ref{Name: "s"})
			Age(p, list, 2, api.Ref{Name: "none"})
			if !slices.Equal(list[:len(list)+2], append(slices.Clone(l), 77, 77)) {
				t.Errorf("%v became %v", l, list[:len(list)+2])
			}
		}
		if !same(before, whole()) {
			t.Errorf("%s became %s", shown(before), shown(whole()))
		}
	}
}

// R4: what was answered stays as it was when what was handed in, or another answer, is changed then; spare room too.
func TestAnswersAreNew(t *testing.T) {
	p := known(t)
	first, _ := Of(p)
	second, _ := Of(p)
	for i := range first[:cap(first)] {
		first[:cap(first)][i] = 55
	}
	if !slices.Equal(second, []int{0, 1, 2}) {
		t.Error(second)
	}
	isLate(t, p, 0, 1, 2)
	p.Flows[0].Body, p.Flows[1].Station, p.Ins[0].Station = n(1), 1, 2
	if !slices.Equal(second, []int{0, 1, 2}) {
		t.Error(second)
	}
	isLate(t, p, 0, 0, 1)
}

// R5: nothing is kept from one call to the next, whichever they are.
func TestNothingKept(t *testing.T) {
	p, tight := known(t), read(t, "a at 1 = b, b at 2 = pre a")
	for range 3 {
		isLate(t, p, 0, 1, 2)
		refuses(t, tight, api.ErrTight)
		checks(t, p, []int{0, 1, 2}, true)
		checks(t, p, []int{0, 1, 1}, false)
		checks(t, tight, []int{0, 1}, false)
		refuses(t, api.Prog{}, api.ErrArg)
		isOld(t, p, []int{0, 1, 2}, 2, api.Ref{Name: "x"}, 2)
		isOld(t, p, []int{0, 1, 9}, 2, api.Ref{Name: "x"}, 9)
		noAge(t, p, []int{0, 1, 2}, 3, api.Ref{Name: "x"})
	}
}

// R5: calls at the same time do not disturb each other.
func TestAtOnce(t *testing.T) {
	p, tight := known(t), read(t, "a at 1 = b, b at 2 = pre a")
	list := []int{0, 1, 2}
	var wg sync.WaitGroup
	for range 8 {
		wg.Go(func() {
			for range 50 {
				isLate(t, p, 0, 1, 2)
				refuses(t, tight, api.ErrTight)
				checks(t, p, list, true)
				isOld(t, p, list, 2, api.Ref{Name: "x"}, 2)
			}
		})
	}
	wg.Wait()
}
