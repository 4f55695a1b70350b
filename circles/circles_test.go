package circles

import (
	"fmt"
	"math"
	"slices"
	"strings"
	"sync"
	"testing"
	"unsafe"

	"belfry/api"
	"belfry/exprs"
	"belfry/names"
	"belfry/progs"
)

func v(name string) api.Expr  { return api.Expr{Op: api.ExName, Name: name} }
func n(number int64) api.Expr { return api.Expr{Op: api.ExInt, N: number} }

func of(op api.Op, parts ...api.Expr) api.Expr { return api.Expr{Op: op, Args: slices.Clone(parts)} }

func in(name string) api.In { return api.In{Name: name, Type: api.TyInt, Station: 1} }

func flow(name string, body api.Expr) api.Flow {
	return api.Flow{Name: name, Type: api.TyInt, Station: 1, Body: body}
}

// read tells a program with the In a, and the flows of a text as the chapter writes them: x = y, y = x + 1.
func read(t *testing.T, s string) api.Prog {
	t.Helper()
	text := "stations 1; in a: int at 1;"
	for _, f := range strings.Split(s, ", ") {
		if name, body, ok := strings.Cut(f, " = "); ok {
			text += " flow " + name + ": int at 1 default 0 = " + body + ";"
		}
	}
	p, at, e := progs.Parse(text)
	if e != api.OK {
		t.Fatalf("%q: %d at %d", s, e, at)
	}
	return p
}

// shown tells something, but not all of it.
func shown(x any) string { return fmt.Sprintf("%.300s", fmt.Sprint(x)) }

// checks asks Check for an error.
func checks(t *testing.T, p api.Prog, want api.Errno) {
	t.Helper()
	if e := Check(p); e != want {
		t.Errorf("Check(%s) = %d, want %d", shown(p), e, want)
	}
}

// finds asks Find for a circle, its names with a blank between each two.
func finds(t *testing.T, p api.Prog, want string) {
	t.Helper()
	if l := Find(p); !slices.Equal(l, strings.Fields(want)) {
		t.Errorf("Find(%s) = %s, want %s", shown(p), shown(l), want)
	}
}

// circles asks Find and Check, of a program whose names each mean one thing.
func circles(t *testing.T, s, want string) {
	t.Helper()
	p := read(t, s)
	finds(t, p, want)
	if want == "" {
		checks(t, p, api.OK)
	} else {
		checks(t, p, api.ErrLoop)
	}
}

// meant tells the place of the flow that a name means; below 0, if it means none.
func meant(p api.Prog, name string) int {
	if slices.ContainsFunc(p.Ins, func(head api.In) bool { return head.Name == name }) {
		return -1
	}
	return slices.IndexFunc(p.Flows, func(f api.Flow) bool { return f.Name == name })
}

// marksNeeds marks the flows that something needs at once.
func marksNeeds(p api.Prog, x api.Expr, marks []int) {
	if x.Op == api.ExName {
		if place := meant(p, x.Name); place >= 0 {
			marks[place] = 1
		}
	}
	if x.Op == api.ExPre {
		return
	}
	for _, part := range x.Args {
		marksNeeds(p, part, marks)
	}
}

// none stands for steps that do not come to an end.
const none = 1 << 20

// stepsOf tells the fewest steps from each flow to each one, at least one of them, by trying each flow as one on the way.
func stepsOf(marks [][]int) [][]int {
	var steps [][]int
	for _, row := range marks {
		steps = append(steps, slices.Clone(row))
		for i, mark := range row {
			if mark == 0 {
				steps[len(steps)-1][i] = none
			}
		}
	}
	for over := range steps {
		for from := range steps {
			for to := range steps {
				steps[from][to] = min(steps[from][to], steps[from][over]+steps[over][to])
			}
		}
	}
	return steps
}

// firstOnOne tells the first flow from which itself is come to; below 0, if there is none.
func firstOnOne(steps [][]int) int {
	for i, row := range steps {
		if row[i] < none {
			return i
		}
	}
	return -1
}

// told tells what Find answers, in the chapter's words.
func told(p api.Prog) []string {
	var marks [][]int
	for _, f := range p.Flows {
		row := make([]int, len(p.Flows))
		marksNeeds(p, f.Body, row)
		marks = append(marks, row)
	}
	steps := stepsOf(marks)
	first := firstOnOne(steps)
	if first < 0 {
		return nil
	}
	l := []string{p.Flows[first].Name}
	for at := first; marks[at][first] == 0; {
		next := -1
		for place, mark := range marks[at] {
			if mark == 1 && (next < 0 || steps[place][first] < steps[next][first]) {
				next = place
			}
		}
		l = append(l, p.Flows[next].Name)
		at = next
	}
	return l
}

// asTold holds Find and Check against the chapter's words.
func asTold(t *testing.T, p api.Prog) []string {
	t.Helper()
	want := told(p)
	if l := Find(p); !slices.Equal(l, want) {
		t.Errorf("Find(%s) = %s, want %s", shown(p), shown(l), shown(want))
	}
	if e := names.Check(p); e != api.OK {
		checks(t, p, e)
	} else if len(want) > 0 {
		checks(t, p, api.ErrLoop)
	} else {
		checks(t, p, api.OK)
	}
	return want
}

// chance tells numbers that look like chance and are the same in each run.
func chance(seed uint64) func(below int) int {
	return func(below int) int {
		seed = seed*6364136223846793005 + 1442695040888963407
		return int(seed >> 33 % uint64(below))
	}
}

// grownBody tells one that may be, at most so deep, and asks for some of those names.
func grownBody(next func(int) int, names []string, deep int) api.Expr {
	if deep == 1 || next(4) == 0 {
		if next(3) == 0 {
			return n(7)
		}
		return v(names[next(len(names))])
	}
	part := func() api.Expr { return grownBody(next, names, deep-1) }
	switch next(5) {
	case 0:
		return of(api.ExNeg, part())
	case 1:
		return of(api.ExIf, part(), part(), part())
	case 2:
		return of(api.ExPre, part())
	case 3:
		return of(api.ExThen, part(), of(api.ExPre, part()))
	}
	return of(api.ExAdd, part(), part())
}

// numbered tells that many names that differ.
func numbered(start string, count int) []string {
	var l []string
	for i := range count {
		l = append(l, fmt.Sprint(start, i))
	}
	return l
}

// grown tells a program of so many Ins and Flows, all of whose names are there.
func grown(next func(int) int, ins, flows, deep int) api.Prog {
	p := api.Prog{Stations: 1}
	all := append(numbered("i", ins), numbered("f", flows)...)
	for _, name := range all[:ins] {
		p.Ins = append(p.Ins, in(name))
	}
	for _, name := range all[ins:] {
		p.Flows = append(p.Flows, flow(name, grownBody(next, all, 1+next(deep))))
	}
	return p
}

// ring tells so many flows, each of which needs the next one, the last one the first; turned by some places.
func ring(count, turn int) api.Prog {
	p := api.Prog{Stations: 1}
	all := numbered("f", count)
	for i := range all {
		p.Flows = append(p.Flows, flow(all[i], v(all[(i+1)%count])))
	}
	p.Flows = append(slices.Clone(p.Flows[turn:]), p.Flows[:turn]...)
	return p
}

func sameBody(x, y api.Expr) bool {
	return x.Op == y.Op && x.N == y.N && x.Name == y.Name && slices.EqualFunc(x.Args, y.Args, sameBody)
}

func same(p, q api.Prog) bool {
	return p.Stations == q.Stations && slices.Equal(p.Ins, q.Ins) && slices.Equal(p.Outs, q.Outs) &&
		slices.EqualFunc(p.Flows, q.Flows, func(f, g api.Flow) bool {
			return f.Name == g.Name && f.Type == g.Type && f.Station == g.Station && f.Default == g.Default && sameBody(f.Body, g.Body)
		})
}

func copiedBody(x api.Expr) api.Expr {
	x.Args = slices.Clone(x.Args)
	for i, part := range x.Args {
		x.Args[i] = copiedBody(part)
	}
	return x
}

// copied tells the same in memory of its own.
func copied(p api.Prog) api.Prog {
	p.Ins, p.Flows, p.Outs = slices.Clone(p.Ins), slices.Clone(p.Flows), slices.Clone(p.Outs)
	for i, f := range p.Flows {
		p.Flows[i].Body = copiedBody(f.Body)
	}
	return p
}

// P9.1, P9.2: the chapter's examples.
func TestExamples(t *testing.T) {
	circles(t, "x = y, y = x + 1", "x y")
	circles(t, "x = 0 -> pre x", "")
	circles(t, "x = a, y = z, z = y or z", "y z")
	circles(t, "x = y, y = z, z = y", "y z")
	circles(t, "x = x", "x")
}

// P9.1, P9.2, R4: no Flows; a list that is empty and one that is nil mean the same.
func TestNothing(t *testing.T) {
	for _, p := range []api.Prog{
		{Stations: 1}, {Stations: 8, Ins: []api.In{}, Flows: []api.Flow{}, Outs: []string{}}, {Stations: 1, Flows: make([]api.Flow, 0, 3)},
		{Stations: 1, Ins: []api.In{in("a"), in("b")}, Outs: []string{"b"}},
	} {
		checks(t, p, api.OK)
		finds(t, p, "")
	}
	finds(t, api.Prog{}, "")
	checks(t, api.Prog{}, api.ErrArg)
}

// P9.1, P9.2: Flows without a circle.
func TestNoCircle(t *testing.T) {
	for _, s := range []string{
		"x = 1", "x = a", "x = a + a", "x = y, y = z, z = a", "z = a, y = z, x = y", "x = y + z, y = z, z = 1", "w = x + y, x = z, y = z, z = a", "x = 1, y = 2, z = 3",
	} {
		circles(t, s, "")
	}
}

// P9.2, P9.3: a flow that needs itself, at once and longer ago.
func TestItself(t *testing.T) {
	for _, s := range []string{
		"x = x", "x = -x", "x = x + 1", "x = 1 + x", "x = x -> 1", "x = 0 -> x", "x = if x then 1 else 2", "x = if true then x else 2", "x = if true then 1 else x", "x = not (1 < 2 * -x)", "x = pre a + x",
		"x = a, y = 1 + y, z = y -> x",
	} {
		want := "x"
		if strings.Contains(s, "y") {
			want = "y"
		}
		circles(t, s, want)
	}
	for _, s := range []string{
		"x = pre x", "x = 0 -> pre x", "x = pre pre x", "x = pre (x + x)", "x = pre (1 -> x)", "x = a -> pre (if x then x else pre x)", "x = -pre -x", "x = pre (pre x + x)",
	} {
		circles(t, s, "")
	}
}

// P9.3: one that is asked for both with Ago 0 and longer ago, whichever comes first.
func TestBothAgo(t *testing.T) {
	for _, s := range []string{"x = x + pre x", "x = pre x + x", "x = pre (x + pre x) + x", "x = if pre x then pre pre x else x", "x = x -> pre x"} {
		circles(t, s, "x")
	}
	for _, s := range []string{"x = pre y + y, y = x", "x = y + pre y, y = x", "x = pre y -> y, y = pre x + x", "x = pre (pre y + 1) + y + pre y, y = x + pre pre x"} {
		circles(t, s, "x y")
	}
	circles(t, "x = pre y + pre pre y, y = x", "")
	circles(t, "x = y, y = pre x + pre pre x", "")
	circles(t, "x = pre y, y = pre x", "")
}

// P9.3: every operator but pre lets through what is asked for at once, in each of its places.
func TestOperators(t *testing.T) {
	for op := api.ExNeg; op <= api.ExPre; op++ {
		count := 2
		switch op {
		case api.ExNeg, api.ExNot, api.ExPre:
			count = 1
		case api.ExIf:
			count = 3
		}
		for place := range count {
			body := of(op, slices.Repeat([]api.Expr{n(1)}, count)...)
			body.Args[place] = v("x")
			p := api.Prog{Stations: 1, Flows: []api.Flow{flow("x", v("y")), flow("y", body)}}
			if op == api.ExPre {
				finds(t, p, "")
				checks(t, p, api.OK)
			} else {
				finds(t, p, "x y")
				checks(t, p, api.ErrLoop)
			}
			p.Flows[1].Body = of(api.ExPre, body)
			finds(t, p, "")
			checks(t, p, api.OK)
		}
	}
}

// P9.1 to P9.3: rings of two, of three, of as many flows as there may be; and the same ones opened by one pre.
func TestRings(t *testing.T) {
	for _, count := range []int{1, 2, 3, 4, 17, api.MaxFlows - 1, api.MaxFlows} {
		for turn := range count {
			if count > 20 && turn%9 != 0 && turn != count-1 { // enough of them, in less time
				continue
			}
			p := ring(count, turn)
			var want []string
			for _, f := range p.Flows {
				want = append(want, f.Name)
			}
			finds(t, p, strings.Join(want, " "))
			checks(t, p, api.ErrLoop)
			slices.Reverse(p.Flows[1:])
			finds(t, p, strings.Join(want, " "))
			for _, open := range []int{0, count / 2, count - 1} {
				q := copied(p)
				q.Flows[open].Body = of(api.ExThen, n(0), of(api.ExPre, q.Flows[open].Body))
				finds(t, q, "")
				checks(t, q, api.OK)
			}
		}
	}
	circles(t, "x = y, y = x", "x y")
	circles(t, "y = x, x = y", "y x")
	circles(t, "x = y, y = z, z = x", "x y z")
	circles(t, "x = z, y = x, z = y", "x z y")
}

// P9.2: a ring of more flows than there may be is one, too.
func TestRingAboveTheLimit(t *testing.T) {
	for _, count := range []int{api.MaxFlows + 1, 1000} {
		p := ring(count, 0)
		finds(t, p, strings.Join(numbered("f", count), " "))
		checks(t, p, api.ErrArg)
		p.Flows[count-1].Body = of(api.ExPre, v("f0"))
		finds(t, p, "")
		checks(t, p, api.ErrArg)
	}
}

// P9.2: a flow ahead of the circle that leads to it and does not lie on it; and one to which it leads.
func TestLeadsToOne(t *testing.T) {
	circles(t, "x = y, y = z, z = y", "y z")
	circles(t, "w = x, x = y, y = z, z = y", "y z")
	circles(t, "w = x, v = y + z, x = a + z, y = y, z = w + v", "w x z")
	circles(t, "v = w, w = y, x = w, y = y", "y")
	circles(t, "w = pre x + a, x = y, y = x", "x y")
	circles(t, "o = 1, x = y + o, y = x + o", "x y")
	circles(t, "x = y, y = x, o = x + y", "x y")
	circles(t, "o = x, x = w, y = o, z = w, w = z", "z w")
}

// P9.2: of two circles that one on which the first of Flows lies, wherever the others of it stand.
func TestTwoCircles(t *testing.T) {
	circles(t, "x = w, y = z, z = y, w = x", "x w")
	circles(t, "u = x, x = w, y = z, z = y, w = x", "x w")
	circles(t, "x = x, y = y", "x")
	circles(t, "y = y, x = x", "y")
	circles(t, "x = v, y = y, z = z, w = x, v = w", "x v w")
	circles(t, "y = z, z = y, x = w, w = x", "y z")
	circles(t, "x = y + w, y = z, z = y, w = x", "x w")
	circles(t, "x = y, y = z + x, z = z", "x y")
	circles(t, "o = y, x = y, y = z, z = y + z", "y z")
	circles(t, "x = y + v, y = z, z = x, w = u, v = w, u = x + v", "x y z")
}

// P9.2: a circle with a shorter way through it.
func TestShorterWay(t *testing.T) {
	circles(t, "x = y, y = z + x, z = x", "x y")
	circles(t, "x = y + x, y = x", "x")
	circles(t, "x = y + z, y = z, z = x", "x z")
	circles(t, "x = y, y = z + v, z = w, w = x, v = x", "x y v")
	circles(t, "x = y + z, y = w, w = v, v = x, z = u, u = x", "x z u")
	circles(t, "x = z, y = z, z = 0 -> x", "x z")
	circles(t, "x = y + w, y = y + z, z = y, w = v, v = u, u = x", "x w v u")
	circles(t, "x = y + z, y = v, v = pre x + w, w = x, z = pre x + v", "x y v w")
}

// P9.2: of two ways of one length the first of Flows is taken, whatever the Body asks for first.
func TestWaysOfOneLength(t *testing.T) {
	for _, body := range []string{"y + z", "z + y", "z + y + z", "pre y + z + y", "if z then z else y"} {
		circles(t, "x = "+body+", y = w, z = w, w = x", "x y w")
		circles(t, "x = "+body+", z = w, y = w, w = x", "x z w")
		circles(t, "x = "+body+", y = x, z = x", "x y")
		circles(t, "x = "+body+", z = x, y = x", "x z")
		circles(t, "x = w, w = "+body+", y = v, z = v, v = x", "x w y v")
		circles(t, "x = w, w = "+body+", v = x, z = v, y = v", "x w z v")
	}
	circles(t, "x = y + z, w = x, z = w, y = v, v = x", "x z w")
	circles(t, "x = z + y + w, w = v + u, y = u + v, z = v + u, v = x, u = x", "x w v")
}

// P9.2: a name that an In and a Flow have means the In.
func TestNameOfInAndFlow(t *testing.T) {
	p := read(t, "a = a")
	finds(t, p, "")
	checks(t, p, api.ErrName)
	p = read(t, "x = a, a = x")
	finds(t, p, "")
	checks(t, p, api.ErrName)
	p = read(t, "a = x, x = y, y = x + a")
	finds(t, p, "x y")
	checks(t, p, api.ErrName)
	p = read(t, "x = y, y = a + z, z = x, a = x")
	finds(t, p, "x y z")
	p.Ins = nil
	finds(t, p, "x y z")
	p.Flows[2].Body = n(1)
	finds(t, p, "x y a")
	checks(t, p, api.ErrLoop)
}

// P9.2: a name that two Flows have means the first one.
func TestNameOfTwoFlows(t *testing.T) {
	for s, want := range map[string]string{
		"x = x, x = 1":               "x",
		"x = 1, x = x":               "",
		"x = x, x = x":               "x",
		"x = 1, y = x, x = y":        "",
		"x = y, y = x, x = 1":        "x y",
		"x = y, x = x, y = x":        "x y",
		"y = x, x = z, x = y, z = y": "y x z",
		"x = 1, x = y, y = y":        "y",
		"x = y, y = 1, y = x":        "",
		"y = z, x = 1, x = z, z = z": "z",
		"x = 1, x = y, y = z, z = y": "y z",
		"x = x + y, x = y, y = x":    "x",
	} {
		p := read(t, s)
		finds(t, p, want)
		checks(t, p, api.ErrName)
	}
}

// P9.2: a name that is not there is no flow, not even the first one.
func TestNameNotThere(t *testing.T) {
	for s, want := range map[string]string{
		"x = none": "", "x = none + x": "x", "x = y, y = none": "", "x = none + y, y = none + x": "x y", "x = none, y = x": "", "x = a, y = none + z, z = y": "y z", "x = y + none, y = 1": "", "x = xx + X": "",
	} {
		p := read(t, s)
		finds(t, p, want)
		checks(t, p, api.ErrName)
	}
	p := read(t, "x = o")
	p.Outs = []string{"o"}
	finds(t, p, "")
	checks(t, p, api.ErrName)
}

// P9.2, R1: Find does not ask whether the program may be.
func TestFindInWhatMayNotBe(t *testing.T) {
	odd := []string{"", "pre", "a b", "é", "\xff", "a\x00", "1", strings.Repeat("n", api.MaxName+1)}
	p := api.Prog{Stations: -7, Outs: []string{"pre", "pre"}}
	for i, name := range odd {
		body := api.Expr{Op: api.ExName, N: -5, Name: odd[(i+1)%len(odd)]}
		p.Flows = append(p.Flows, api.Flow{Name: name, Type: api.Type(255 - i), Station: math.MinInt + i, Default: math.MinInt64, Body: body})
	}
	if l := Find(p); !slices.Equal(l, odd) {
		t.Errorf("%q", l)
	}
	checks(t, p, api.ErrArg)
	p.Ins = []api.In{{Name: "\xff"}}
	if l := Find(p); len(l) != 0 {
		t.Errorf("%q", l)
	}
	p.Ins = nil
	p.Flows[3].Body = api.Expr{Op: 77, Args: []api.Expr{{Op: api.ExPre, Args: []api.Expr{{}, p.Flows[3].Body}}}}
	if l := Find(p); len(l) != 0 {
		t.Errorf("%q", l)
	}
	p.Flows[3].Body.Args[0].Op = api.ExNone
	if l := Find(p); !slices.Equal(l, odd) {
		t.Errorf("%q", l)
	}
	finds(t, api.Prog{Flows: []api.Flow{{Body: api.Expr{Op: api.ExInt, Name: "x"}}, {Name: "x"}}}, "")
	if l := Find(api.Prog{Flows: []api.Flow{{Body: api.Expr{Op: api.ExName}}}}); !slices.Equal(l, []string{""}) {
		t.Errorf("%q", l)
	}
	if l := Find(api.Prog{Flows: make([]api.Flow, 300)}); len(l) != 0 {
		t.Errorf("%q", l)
	}
}

// P9.2, R1: an ExName that has parts, too, asks for what they ask for; an ExPre of several puts all of them longer ago.
func TestFindInOddBodies(t *testing.T) {
	p := read(t, "x = 1, y = x")
	p.Flows[0].Body = api.Expr{Op: api.ExName, Name: "a", Args: []api.Expr{v("none"), v("y")}}
	finds(t, p, "x y")
	p.Flows[0].Body.Args = []api.Expr{of(api.ExPre, v("y"), v("y"), of(api.ExAdd, v("x")))}
	finds(t, p, "")
	p.Flows[0].Body = of(api.ExNone, of(200, of(api.ExInt, v("y"))))
	finds(t, p, "x y")
	p.Flows[0].Body = of(api.ExPre)
	finds(t, p, "")
	checks(t, p, api.ErrArg)
}

// R1: Bodies that are as deep and as great as they may be, and more so.
func TestGreatBodies(t *testing.T) {
	for _, deep := range []int{api.MaxDeep, api.MaxDeep + 1, 1 << 15} {
		x, y := v("x"), v("x")
		for range deep - 1 {
			x, y = of(api.ExNeg, x), of(api.ExPre, y)
		}
		want := []api.Errno{api.ErrLoop, api.OK}
		if deep > api.MaxDeep {
			want = []api.Errno{api.ErrArg, api.ErrArg}
		}
		p := api.Prog{Stations: 1, Flows: []api.Flow{flow("x", x)}}
		finds(t, p, "x")
		checks(t, p, want[0])
		p.Flows[0].Body = y
		finds(t, p, "")
		checks(t, p, want[1])
	}
	wide := of(api.ExAdd, slices.Repeat([]api.Expr{n(1)}, 1<<17)...)
	p := api.Prog{Stations: 1, Flows: []api.Flow{flow("x", wide)}}
	finds(t, p, "")
	wide.Args[1<<16] = v("x")
	finds(t, p, "x")
	checks(t, p, api.ErrArg)
}

// all tells a Body that asks for all those names at once, the last one first.
func all(names []string) api.Expr {
	if len(names) == 1 {
		return v(names[0])
	}
	half := len(names) / 2
	return of(api.ExAdd, all(names[half:]), all(names[:half]))
}

// P9.1, P9.2: as many flows as there may be, each of which needs as many as it can.
func TestMostNeeds(t *testing.T) {
	names := numbered("f", api.MaxFlows)
	const most = (api.MaxSize + 1) / 2
	p := api.Prog{Stations: 1}
	for i := range names {
		if i < len(names)-1 {
			p.Flows = append(p.Flows, flow(names[i], all(names[i+1:min(i+1+most, len(names))])))
		} else {
			p.Flows = append(p.Flows, flow(names[i], n(1)))
		}
	}
	finds(t, p, "")
	checks(t, p, api.OK)
	asTold(t, p)
	p.Flows[127].Body = v("f0")
	finds(t, p, "f0 f27 f127")
	checks(t, p, api.ErrLoop)
	p.Flows[127].Body = v("f1")
	finds(t, p, "f1 f27 f127")
	p.Flows[27].Body = v("f126")
	finds(t, p, "f1 f28 f127")
	p.Flows[127].Body = v("f126")
	finds(t, p, "f126 f127")
	checks(t, p, api.ErrLoop)
	asTold(t, p)
}

// P9.1: a program that may not be is ErrArg, one whose names mean two things ErrName, whether there is a circle or not.
func TestCheckNamesFirst(t *testing.T) {
	spoiled := map[string]func(p *api.Prog){
		"no stations":      func(p *api.Prog) { p.Stations = 0 },
		"too many":         func(p *api.Prog) { p.Stations = api.MaxStations + 1 },
		"an In's type":     func(p *api.Prog) { p.Ins[0].Type = api.TyNone },
		"a flow's type":    func(p *api.Prog) { p.Flows[0].Type = 3 },
		"a flow's station": func(p *api.Prog) { p.Flows[1].Station = 2 },
		"a flow's name":    func(p *api.Prog) { p.Flows[2].Name = "pre" },
		"a Default":        func(p *api.Prog) { p.Flows[1].Default = math.MinInt64 },
		"a Body":           func(p *api.Prog) { p.Flows[2].Body = api.Expr{} },
		"a Body's part":    func(p *api.Prog) { p.Flows[2].Body = of(api.ExNot, of(api.ExNot)) },
		"an out":           func(p *api.Prog) { p.Outs = []string{"pre"} },
		"too many Flows":   func(p *api.Prog) { p.Flows = append(p.Flows, ring(api.MaxFlows, 0).Flows...) },
	}
	twice := map[string]func(p *api.Prog){
		"none":               func(p *api.Prog) {},
		"two of Ins":         func(p *api.Prog) { p.Ins = append(p.Ins, in("a")) },
		"an In and a Flow":   func(p *api.Prog) { p.Ins = append(p.Ins, in("g")) },
		"two of Flows":       func(p *api.Prog) { p.Flows = append(p.Flows, flow("g", n(1))) },
		"one not there":      func(p *api.Prog) { p.Flows = append(p.Flows, flow("last", v("none"))) },
		"an out not there":   func(p *api.Prog) { p.Outs = []string{"none"} },
		"an out there twice": func(p *api.Prog) { p.Outs = []string{"g", "g"} },
	}
	for _, s := range []string{"g = 1, h = g, k = a", "g = 1, h = g, k = k", "g = g, h = 1, k = 2", "g = h, h = g, k = h", "g = 1, h = 1, k = pre k"} {
		for what, double := range twice {
			p := read(t, s)
			double(&p)
			if e := Check(p); what != "none" && e != api.ErrName {
				t.Errorf("%s: Check(%s) = %d", what, shown(p), e)
			}
			for how, spoil := range spoiled {
				q := copied(p)
				spoil(&q)
				if e := Check(q); e != api.ErrArg {
					t.Errorf("%s, %s: Check(%s) = %d", what, how, shown(q), e)
				}
			}
		}
	}
}

// P9.1: what other layers refuse is no fault here: a wrong type, no beginning.
func TestCheckAsksNoMore(t *testing.T) {
	circles(t, "x = true + 1, y = pre x", "")
	circles(t, "x = not 1 + y, y = pre pre x or x", "x y")
}

// P9.2, P9.3: all programs of up to four flows, by who needs whom.
func TestAllSmall(t *testing.T) {
	names := []string{"x", "y", "z", "w"}
	for count := 1; count <= len(names); count++ {
		for bits := range 1 << (count * count) {
			if count == 4 && bits%5 != 0 { // enough of them, in less time
				continue
			}
			p := api.Prog{Stations: 1}
			for i := range count {
				body := n(1)
				for j := range count {
					switch part := v(names[j]); {
					case bits>>(i*count+j)&1 == 0:
					case j%2 == 0:
						body = of(api.ExAdd, body, part)
					default:
						body = of(api.ExAdd, part, body)
					}
				}
				p.Flows = append(p.Flows, flow(names[i], body))
			}
			asTold(t, p)
		}
	}
}

// P9.1, P9.2: many programs, held against the chapter's words.
func TestMany(t *testing.T) {
	next := chance(91)
	count := map[int]int{}
	for range 6000 {
		p := grown(next, next(4), 1+next(14), 4)
		count[min(len(asTold(t, p)), 4)]++
	}
	for range 100 {
		count[min(len(asTold(t, grown(next, 60, 60, 3))), 4)]++
	}
	if slices.Min([]int{count[0], count[1], count[2], count[3], count[4]}) < 20 {
		t.Errorf("%v", count)
	}
}

// P9.2: many programs whose names mean two things, or are not there.
func TestManyOddNames(t *testing.T) {
	next := chance(92)
	count := map[api.Errno]int{}
	for range 4000 {
		p := grown(next, 1+next(3), 2+next(8), 4)
		all := append(numbered("f", len(p.Flows)), "i0", "none")
		for range next(3) {
			p.Flows[next(len(p.Flows))].Name = all[next(len(all))]
		}
		if next(3) == 0 {
			p.Flows[next(len(p.Flows))].Body = grownBody(next, all, 3)
		}
		if next(6) == 0 {
			p.Stations = 0
		}
		asTold(t, p)
		count[Check(p)]++
	}
	if count[api.OK] < 100 || count[api.ErrArg] < 100 || count[api.ErrName] < 100 || count[api.ErrLoop] < 100 {
		t.Errorf("%v", count)
	}
}

// needsAtOnce tells whether the flow of one name needs that of another one at once, by what lower layers say.
func needsAtOnce(p api.Prog, who, whom string) bool {
	_, _, from, ok := names.Find(p, who)
	if !ok || from < 0 {
		return false
	}
	_, _, to, ok := names.Find(p, whom)
	return ok && to >= 0 && slices.Contains(exprs.Refs(p.Flows[from].Body), api.Ref{Name: whom})
}

// P9.3: each needs the next one, the last one the first; none is there twice; with a pre ahead of each Body there is none.
func TestWhatFollows(t *testing.T) {
	next := chance(93)
	found := 0
	for range 3000 {
		p := grown(next, 2, 1+next(20), 4)
		l := Find(p)
		for i, name := range l {
			if !needsAtOnce(p, name, l[(i+1)%len(l)]) {
				t.Errorf("%s of %s does not need the next one in %s", name, l, shown(p))
			}
			if slices.Contains(l[:i], name) {
				t.Errorf("%s is there twice in %s", name, l)
			}
		}
		found += min(len(l), 1)
		for i, f := range p.Flows {
			p.Flows[i].Body = of(api.ExPre, f.Body)
		}
		finds(t, p, "")
		checks(t, p, api.OK)
	}
	if found < 500 {
		t.Errorf("%d", found)
	}
}

// P9.3: what is asked for longer ago, put beside what each flow is, changes nothing.
func TestLongerAgoChangesNothing(t *testing.T) {
	next := chance(94)
	for range 1000 {
		p := grown(next, 2, 1+next(9), 3)
		want, e := Find(p), Check(p)
		for i, f := range p.Flows {
			p.Flows[i].Body = of(api.ExAdd, of(api.ExPre, v(p.Flows[next(len(p.Flows))].Name)), f.Body)
		}
		finds(t, p, strings.Join(want, " "))
		checks(t, p, e)
	}
}

// bodyWithRoom tells the same in lists with spare room that is filled.
func bodyWithRoom(x api.Expr) api.Expr {
	l := make([]api.Expr, 0, len(x.Args)+1)
	for _, part := range x.Args {
		l = append(l, bodyWithRoom(part))
	}
	x.Args = append(l, v("spare"))[:len(l)]
	return x
}

// roomStays tells whether its spare room is as it was.
func roomStays(x api.Expr) bool {
	return sameBody(x.Args[:len(x.Args)+1][len(x.Args)], v("spare")) && !slices.ContainsFunc(x.Args, func(part api.Expr) bool { return !roomStays(part) })
}

// withRoom tells the same in lists with spare room that is filled, and whether it is still so.
func withRoom(p api.Prog) (api.Prog, func() bool) {
	allIns := append(slices.Clone(p.Ins), in("spare"))
	allFlows := append(slices.Clone(p.Flows), flow("spare", v("spare")))
	for i, f := range allFlows {
		allFlows[i].Body = bodyWithRoom(f.Body)
	}
	allOuts := append(slices.Clone(p.Outs), "spare")
	mine := api.Prog{Stations: p.Stations, Ins: allIns[:len(p.Ins)], Flows: allFlows[:len(p.Flows)], Outs: allOuts[:len(p.Outs)]}
	before := copied(api.Prog{Stations: p.Stations, Ins: allIns, Flows: allFlows, Outs: allOuts})
	return mine, func() bool {
		for _, f := range allFlows {
			if !roomStays(f.Body) {
				return false
			}
		}
		return same(api.Prog{Stations: mine.Stations, Ins: allIns, Flows: allFlows, Outs: allOuts}, before) && same(mine, p)
	}
}

// R4: what is handed in stays as it was, its spare room too, whatever is answered; and spare room counts for nothing.
func TestArgumentsStay(t *testing.T) {
	next := chance(95)
	list := []api.Prog{{}, {Stations: 1}, ring(3, 0), ring(api.MaxFlows, 5), read(t, "x = none"), read(t, "x = spare"), read(t, "x = x, x = x")}
	for range 300 {
		list = append(list, grown(next, 2, 1+next(8), 4))
	}
	for _, p := range list {
		mine, stays := withRoom(p)
		if Check(mine) != Check(p) || !slices.Equal(Find(mine), Find(p)) {
			t.Errorf("spare room of %s counts", shown(p))
		}
		asTold(t, mine)
		if !stays() {
			t.Errorf("%s is changed", shown(p))
		}
	}
}

// R4: an answer that is changed, its spare room too, changes neither the program nor another answer.
func TestAnswersAreNew(t *testing.T) {
	for _, p := range []api.Prog{read(t, "x = x"), read(t, "x = y, y = z, z = x"), ring(api.MaxFlows, 0)} {
		before := copied(p)
		one, two := Find(p), Find(p)
		want := slices.Clone(two)
		one = one[:cap(one)]
		for i := range one {
			one[i] = "changed"
		}
		if !slices.Equal(two, want) || !slices.Equal(Find(p), want) || !same(p, before) {
			t.Errorf("%s of %s", shown(two), shown(p))
		}
	}
}

// R4: what is handed in is not kept: when its names' bytes change, an answer stays, and it is another program.
func TestNothingKept(t *testing.T) {
	name := []byte("abc")
	shared := unsafe.String(&name[0], len(name))
	p := api.Prog{Stations: 1, Flows: []api.Flow{flow(shared, v("xyz")), flow("xyz", v("abc"))}}
	l := Find(p)
	finds(t, p, "abc xyz")
	checks(t, p, api.ErrLoop)
	copy(name, "uvw")
	if !slices.Equal(l, []string{"abc", "xyz"}) {
		t.Errorf("%s", l)
	}
	finds(t, p, "")
	checks(t, p, api.ErrName)
	copy(name, "abc")
	finds(t, p, "abc xyz")
	p.Flows[1].Body = n(1)
	finds(t, p, "")
	checks(t, p, api.OK)
}

// R5: what is answered hangs on nothing but what is handed in, however many ask at once, and however often.
func TestAtOnce(t *testing.T) {
	next := chance(96)
	var list []api.Prog
	for range 60 {
		list = append(list, grown(next, 2, 1+next(12), 4))
	}
	var group sync.WaitGroup
	for range 8 {
		group.Go(func() {
			for _, p := range list {
				asTold(t, p)
			}
		})
	}
	group.Wait()
}
