package names

import (
	"fmt"
	"math"
	"slices"
	"strings"
	"sync"
	"testing"
	"unsafe"

	"belfry/api"
	"belfry/exprs"
	"belfry/progs"
)

func v(name string) api.Expr  { return api.Expr{Op: api.ExName, Name: name} }
func n(number int64) api.Expr { return api.Expr{Op: api.ExInt, N: number} }

func of(op api.Op, parts ...api.Expr) api.Expr { return api.Expr{Op: op, Args: slices.Clone(parts)} }

func in(name string) api.In { return api.In{Name: name, Type: api.TyInt, Station: 1} }

func flow(name string, body api.Expr) api.Flow {
	return api.Flow{Name: name, Type: api.TyInt, Station: 1, Body: body}
}

// program tells one with the Ins of those names, some Flows, and some outs.
func program(ins []string, flows []api.Flow, outs ...string) api.Prog {
	p := api.Prog{Stations: 2, Flows: slices.Clone(flows), Outs: slices.Clone(outs)}
	for _, name := range ins {
		p.Ins = append(p.Ins, in(name))
	}
	return p
}

// exampleProg tells P of the chapter's examples.
func exampleProg() api.Prog {
	return api.Prog{
		Stations: 2,
		Ins:      []api.In{{Name: "a", Type: api.TyInt, Station: 1}},
		Flows:    []api.Flow{{Name: "x", Type: api.TyBool, Station: 2, Body: of(api.ExEq, v("a"), n(1))}},
		Outs:     []string{"x"},
	}
}

// read tells the program of a text behind its stations.
func read(t *testing.T, s string) api.Prog {
	t.Helper()
	p, at, e := progs.Parse("stations 2; " + s)
	if e != api.OK {
		t.Fatalf("%q: %d at %d", s, e, at)
	}
	return p
}

// numbered tells that many names that differ.
func numbered(start string, count int) []string {
	var l []string
	for i := range count {
		l = append(l, fmt.Sprint(start, i))
	}
	return l
}

// plain tells Flows of those names that ask for nothing.
func plain(names ...string) []api.Flow {
	var l []api.Flow
	for _, name := range names {
		l = append(l, flow(name, n(1)))
	}
	return l
}

// fullest tells a program with as many Ins, Flows and Outs as there may be; each flow asks for the next thing, the last one for the first.
func fullest() api.Prog {
	all := append(numbered("i", api.MaxIns), numbered("f", api.MaxFlows)...)
	p := program(all[:api.MaxIns], nil, all...)
	for i := api.MaxIns; i < len(all); i++ {
		p.Flows = append(p.Flows, flow(all[i], v(all[(i+1)%len(all)])))
	}
	return p
}

func sameBody(x, y api.Expr) bool {
	return x.Op == y.Op && x.N == y.N && x.Name == y.Name && slices.EqualFunc(x.Args, y.Args, sameBody)
}

func same(p, q api.Prog) bool {
	return p.Stations == q.Stations && slices.Equal(p.Ins, q.Ins) && slices.Equal(p.Outs, q.Outs) &&
		slices.EqualFunc(p.Flows, q.Flows, func(f, g api.Flow) bool {
			return f.Name == g.Name && f.Type == g.Type && f.Station == g.Station && f.Default == g.Default && sameBody(f.Body, g.Body)
		})
}

// copied tells the same in memory of its own.
func copied(p api.Prog) api.Prog {
	p.Ins, p.Flows, p.Outs = slices.Clone(p.Ins), slices.Clone(p.Flows), slices.Clone(p.Outs)
	for i, f := range p.Flows {
		p.Flows[i].Body = copiedBody(f.Body)
	}
	return p
}

func copiedBody(x api.Expr) api.Expr {
	x.Args = slices.Clone(x.Args)
	for i, part := range x.Args {
		x.Args[i] = copiedBody(part)
	}
	return x
}

// checks asks Check for an error.
func checks(t *testing.T, p api.Prog, want api.Errno) {
	t.Helper()
	if e := Check(p); e != want {
		t.Errorf("Check(%.300s) = %d, want %d", fmt.Sprint(p), e, want)
	}
}

// finds asks Find for a thing.
func finds(t *testing.T, p api.Prog, name string, station int, kind api.Type, place int) {
	t.Helper()
	if s, k, f, ok := Find(p, name); s != station || k != kind || f != place || !ok {
		t.Errorf("Find(%.300s, %.60q) = %d, %d, %d, %t, want %d, %d, %d", fmt.Sprint(p), name, s, k, f, ok, station, kind, place)
	}
}

// misses asks Find for false, and nothing besides.
func misses(t *testing.T, p api.Prog, name string) {
	t.Helper()
	if s, k, f, ok := Find(p, name); s != 0 || k != api.TyNone || f != 0 || ok {
		t.Errorf("Find(%.300s, %.60q) = %d, %d, %d, %t, want nothing", fmt.Sprint(p), name, s, k, f, ok)
	}
}

// chance tells numbers that look like chance and are the same in each run.
func chance(seed uint64) func(below int) int {
	return func(below int) int {
		seed = seed*6364136223846793005 + 1442695040888963407
		return int(seed >> 33 % uint64(below))
	}
}

// headsOf tells the Ins, and the Flows as if they were Ins.
func headsOf(p api.Prog) []api.In {
	l := slices.Clone(p.Ins)
	for _, f := range p.Flows {
		l = append(l, api.In{Name: f.Name, Type: f.Type, Station: f.Station})
	}
	return l
}

func timesOf[T any](l []T, is func(T) bool) int {
	count := 0
	for _, x := range l {
		if is(x) {
			count++
		}
	}
	return count
}

// told tells what Check answers, in the chapter's words, each name held against all others.
func told(p api.Prog) api.Errno {
	if !progs.Check(p) {
		return api.ErrArg
	}
	heads := headsOf(p)
	has := func(name string) int { return timesOf(heads, func(h api.In) bool { return h.Name == name }) }
	for _, h := range heads {
		if has(h.Name) != 1 {
			return api.ErrName
		}
	}
	for _, f := range p.Flows {
		for _, ref := range exprs.Refs(f.Body) {
			if has(ref.Name) != 1 {
				return api.ErrName
			}
		}
	}
	for _, name := range p.Outs {
		if has(name) != 1 || timesOf(p.Outs, func(s string) bool { return s == name }) != 1 {
			return api.ErrName
		}
	}
	return api.OK
}

// asTold holds Check and Find against the chapter's words.
func asTold(t *testing.T, p api.Prog, names ...string) {
	t.Helper()
	checks(t, p, told(p))
	heads := headsOf(p)
	for _, name := range names {
		i := slices.IndexFunc(heads, func(h api.In) bool { return h.Name == name })
		if i < 0 {
			misses(t, p, name)
		} else {
			finds(t, p, name, heads[i].Station, heads[i].Type, max(i-len(p.Ins), -1))
		}
	}
}

// grownBody tells one that may be, at most so deep, and asks for some of those names.
func grownBody(next func(int) int, names []string, deep int) api.Expr {
	if deep == 1 || next(4) == 0 {
		return []api.Expr{n(7), {Op: api.ExBool, N: 1}, v(names[next(len(names))]), v(names[next(len(names))])}[next(4)]
	}
	part := func() api.Expr { return grownBody(next, names, deep-1) }
	switch next(4) {
	case 0:
		return of([]api.Op{api.ExNeg, api.ExNot, api.ExPre}[next(3)], part())
	case 1:
		return of(api.ExIf, part(), part(), part())
	}
	return of([]api.Op{api.ExAdd, api.ExEq, api.ExOr, api.ExThen}[next(4)], part(), part())
}

// grown tells a program of at most so many Ins and Flows; about half of them are checked.
func grown(next func(int) int, most int) api.Prog {
	p := api.Prog{Stations: 1 + next(api.MaxStations)}
	ins, flows := next(most+1), 1+next(most)
	all := numbered("n", ins+flows)
	for i := range ins {
		p.Ins = append(p.Ins, api.In{Name: all[i], Type: api.Type(1 + next(2)), Station: 1 + next(p.Stations)})
	}
	for i := range flows {
		p.Flows = append(p.Flows, api.Flow{Name: all[ins+i], Type: api.Type(1 + next(2)), Station: 1 + next(p.Stations), Body: grownBody(next, all, 1+next(4))})
	}
	for _, name := range all {
		if next(2) == 0 {
			p.Outs = append(p.Outs, name)
		}
	}
	switch next(8) {
	case 0:
		p.Flows[next(flows)].Name = all[next(len(all))]
	case 1:
		p.Flows[next(flows)].Body = grownBody(next, append(all, "none"), 4)
	case 2:
		if len(p.Outs) > 0 {
			p.Outs[next(len(p.Outs))] = append(all, "none")[next(len(all)+1)]
		}
	case 3:
		if ins > 0 {
			p.Ins[next(ins)].Name = all[next(len(all))]
		}
	}
	return p
}

// P7.1, P7.2: the chapter's examples.
func TestExamples(t *testing.T) {
	p := exampleProg()
	checks(t, p, api.OK)
	finds(t, p, "a", 1, api.TyInt, -1)
	finds(t, p, "x", 2, api.TyBool, 0)
	misses(t, p, "y")

	p.Flows = append(p.Flows, flow("a", n(1)))
	checks(t, p, api.ErrName)
	p = exampleProg()
	p.Flows[0].Body = v("y")
	checks(t, p, api.ErrName)
	p = exampleProg()
	p.Outs = []string{"y"}
	checks(t, p, api.ErrName)
	p = exampleProg()
	p.Outs = []string{"x", "x"}
	checks(t, p, api.ErrName)
	p = exampleProg()
	p.Stations = 0
	checks(t, p, api.ErrArg)
}

// P7.1: a program that may not be is ErrArg, whatever its names are besides.
func TestMayNotBe(t *testing.T) {
	spoiled := map[string]func(p *api.Prog){
		"no stations":        func(p *api.Prog) { p.Stations = 0 },
		"too many stations":  func(p *api.Prog) { p.Stations = api.MaxStations + 1 },
		"an In's station":    func(p *api.Prog) { p.Ins[0].Station = 3 },
		"an In's type":       func(p *api.Prog) { p.Ins[0].Type = api.TyNone },
		"an In's name":       func(p *api.Prog) { p.Ins[0].Name = "pre" },
		"a flow's station":   func(p *api.Prog) { p.Flows[0].Station = 0 },
		"a flow's type":      func(p *api.Prog) { p.Flows[0].Type = 3 },
		"a flow's name":      func(p *api.Prog) { p.Flows[0].Name = "" },
		"a flow's default":   func(p *api.Prog) { p.Flows[0].Default = math.MinInt64 },
		"a flow's body":      func(p *api.Prog) { p.Flows[0].Body = of(api.ExAdd, v("none")) },
		"a name in a body":   func(p *api.Prog) { p.Flows[0].Body = v("not") },
		"an out's name":      func(p *api.Prog) { p.Outs[0] = "x y" },
		"an out without one": func(p *api.Prog) { p.Outs[0] = "" },
		"too many Ins":       func(p *api.Prog) { p.Ins = slices.Repeat(p.Ins[:1], api.MaxIns+1) },
		"too many Flows":     func(p *api.Prog) { p.Flows = slices.Repeat(p.Flows[:1], api.MaxFlows+1) },
		"too many Outs":      func(p *api.Prog) { p.Outs = slices.Repeat(p.Outs[:1], len(p.Ins)+len(p.Flows)+1) },
	}
	for what, spoil := range spoiled {
		for _, p := range []api.Prog{
			program([]string{"a", "b"}, plain("x", "y"), "x", "y"),
			program([]string{"a", "a"}, plain("x", "y"), "x", "y"),
			program([]string{"a", "b", "b"}, plain("x", "y", "y", "b"), "x", "y"),
			program([]string{"a"}, plain("x", "a"), "x"),
			program([]string{"a"}, []api.Flow{flow("x", n(1)), flow("y", v("none"))}, "x"),
			program([]string{"a"}, plain("x"), "x", "none"),
			program([]string{"a"}, plain("x"), "x", "x"),
		} {
			spoil(&p)
			if e := Check(p); e != api.ErrArg {
				t.Errorf("%s: Check(%.200s) = %d", what, fmt.Sprint(p), e)
			}
		}
	}
	checks(t, api.Prog{}, api.ErrArg)
}

// P7.1: two of one name, wherever they stand, and whatever else they have.
func TestTwoOfOneName(t *testing.T) {
	for _, s := range []string{
		"in a: int at 1; in a: int at 1;",
		"in a: int at 1; in a: bool at 2;",
		"in a: int at 1; in b: int at 1; in c: int at 1; in a: int at 1;",
		"in b: int at 1; in c: int at 1; in a: int at 1; in a: int at 1; flow x: int at 1 default 0 = b;",
		"flow x: int at 1 default 0 = 1; flow x: int at 1 default 0 = 1;",
		"flow x: int at 1 default 0 = 1; flow x: bool at 2 default 1 = true;",
		"flow x: int at 1 default 0 = 1; flow y: int at 1 default 0 = 1; flow x: int at 1 default 0 = 1; out y;",
		"in y: int at 1; flow z: int at 1 default 0 = 1; flow x: int at 1 default 0 = 1; flow x: int at 1 default 0 = 1;",
		"in a: int at 1; flow a: int at 1 default 0 = 1;",
		"in a: int at 1; flow a: bool at 2 default 0 = true; out a;",
		"in b: int at 1; in a: int at 1; flow x: int at 1 default 0 = 1; flow a: int at 1 default 0 = pre a;",
		"in a: int at 1; in a: int at 1; flow a: int at 1 default 0 = a; flow a: int at 1 default 0 = a; out a;",
	} {
		checks(t, read(t, s), api.ErrName)
	}
	for _, s := range []string{
		"in a: int at 1; in A: int at 1; flow aa: int at 1 default 0 = 1; flow a_: int at 1 default 0 = 1; flow a0: int at 1 default 0 = 1; flow a00: int at 1 default 0 = 1;",
		"in Pre: int at 1; flow In: int at 1 default 0 = Pre; flow OUT: int at 1 default 0 = In; out OUT; out In; out Pre;",
	} {
		checks(t, read(t, s), api.OK)
	}
	long := strings.Repeat("n", api.MaxName-1)
	checks(t, program([]string{long + "a"}, plain(long+"b", long), long+"a", long+"b", long), api.OK)
	checks(t, program([]string{long + "a"}, plain(long+"b", long+"a")), api.ErrName)
}

// P7.1: each two of the most things that there may be.
func TestEachTwoOfOneName(t *testing.T) {
	all := append(numbered("i", api.MaxIns), numbered("f", api.MaxFlows)...)
	p := program(all[:api.MaxIns], plain(all[api.MaxIns:]...))
	rename := func(i int, name string) {
		if i < api.MaxIns {
			p.Ins[i].Name = name
		} else {
			p.Flows[i-api.MaxIns].Name = name
		}
	}
	checks(t, p, api.OK)
	for i := range all {
		for j := range i {
			if i-j > 2 && (i+j)%7 != 0 { // enough of them, in less time
				continue
			}
			rename(i, all[j])
			if e := Check(p); e != api.ErrName {
				t.Errorf("%d named as %d: %d", i, j, e)
			}
		}
		rename(i, all[i])
	}
	checks(t, p, api.OK)
}

// deepest tells one as deep as it may be, of operators of one, around another one.
func deepest(op api.Op, x api.Expr) api.Expr {
	for range api.MaxDeep - 1 {
		x = of(op, x)
	}
	return x
}

// holes tells bodies that ask for one name in each place where one may stand.
func holes(name string) []api.Expr {
	x, other := v(name), v("a")
	all := []api.Expr{
		x, deepest(api.ExNeg, x), deepest(api.ExPre, x), deepest(api.ExNot, x),
		of(api.ExIf, x, other, other), of(api.ExIf, other, x, other), of(api.ExIf, other, other, x),
		of(api.ExThen, n(0), of(api.ExPre, x)), of(api.ExPre, of(api.ExAdd, other, x)), of(api.ExPre, of(api.ExAdd, x, other)),
		of(api.ExAdd, other, of(api.ExMul, n(2), of(api.ExSub, other, of(api.ExNeg, of(api.ExPre, of(api.ExPre, x)))))),
		of(api.ExAdd, of(api.ExPre, other), of(api.ExPre, x)), of(api.ExAdd, x, x), of(api.ExAdd, of(api.ExPre, x), x),
	}
	for op := api.ExAdd; op <= api.ExOr; op++ {
		all = append(all, of(op, x, other), of(op, other, x), of(op, n(1), x), of(op, of(op, n(1), other), of(op, other, x)), of(op, of(op, x, other), of(op, other, n(1))))
	}
	all = append(all, of(api.ExThen, x, other), of(api.ExThen, other, x))
	for i := range api.MaxSize/2 - 1 {
		if i%9 == 0 || i > api.MaxSize/2-4 {
			all = append(all, wide(api.MaxSize/2, i, x))
		}
	}
	return all
}

// wide tells a sum of that many parts, as shallow as it can be, with one at a place.
func wide(count, place int, x api.Expr) api.Expr {
	if count == 1 {
		if place == 0 {
			return x
		}
		return v("a")
	}
	return of(api.ExAdd, wide(count/2, place, x), wide(count-count/2, place-count/2, x))
}

// P7.1: a Body that asks for a name that none has, in any of its parts; and for one that is there.
func TestBodies(t *testing.T) {
	for i, body := range holes("none") {
		checks(t, program([]string{"a"}, []api.Flow{flow("x", body)}), api.ErrName)
		checks(t, program([]string{"a"}, []api.Flow{flow("x", body)}, "x"), api.ErrName)
		checks(t, program([]string{"a", "none"}, []api.Flow{flow("x", body)}), api.OK)
		checks(t, program([]string{"none"}, []api.Flow{flow("x", body), flow("a", body)}), api.OK)
		checks(t, program([]string{"a"}, []api.Flow{flow("none", body)}), api.OK)
		checks(t, program(nil, []api.Flow{flow("x", body), flow("a", n(1)), flow("none", body)}, "none", "x"), api.OK)
		if !exprs.Check(body) {
			t.Errorf("%d may not be", i)
		}
	}
	for _, name := range []string{"A", "aa", "a_", "a1", "ab", "b", "X", "xx"} {
		checks(t, program([]string{"a"}, []api.Flow{flow("x", v(name))}), api.ErrName)
	}
}

// P7.1: an out is no thing, so that a Body may not ask for it.
func TestBodyOfOut(t *testing.T) {
	checks(t, program([]string{"a"}, []api.Flow{flow("x", v("y"))}, "y"), api.ErrName)
	checks(t, program([]string{"a"}, []api.Flow{flow("x", v("y"))}, "x", "a"), api.ErrName)
}

// P7.1: a Body that asks for what none has, in each one of many Flows.
func TestBodyOfEachFlow(t *testing.T) {
	for _, ins := range []int{0, 1, api.MaxIns} {
		for i := range api.MaxFlows {
			p := program(numbered("i", ins), plain(numbered("f", api.MaxFlows)...))
			p.Flows[i].Body = of(api.ExAdd, v("f0"), of(api.ExPre, v("none")))
			checks(t, p, api.ErrName)
			p.Flows[i].Body = of(api.ExAdd, v("f0"), of(api.ExPre, v("f127")))
			checks(t, p, api.OK)
		}
	}
}

// P7.1: a Body may ask for its own flow, for one that comes later, and for all of them.
func TestBodyOfFlows(t *testing.T) {
	for _, s := range []string{
		"flow x: int at 1 default 0 = x;",
		"flow x: int at 1 default 0 = pre x;",
		"flow x: int at 1 default 0 = 0 -> pre x + 1; out x;",
		"flow x: int at 1 default 0 = y; flow y: int at 2 default 0 = 1;",
		"flow x: int at 1 default 0 = y; flow y: int at 2 default 0 = x;",
		"flow x: int at 1 default 0 = z; flow y: int at 1 default 0 = 1; flow z: int at 1 default 0 = y; out z;",
		"flow x: bool at 1 default 7 = a; in a: int at 2;",
	} {
		checks(t, read(t, s), api.OK)
	}
	for _, s := range []string{"flow x: int at 1 default 0 = x + y;", "flow x: int at 1 default 0 = pre y; flow z: int at 1 default 0 = x;"} {
		checks(t, read(t, s), api.ErrName)
	}
}

// P7.1: outs that none has, and outs that are there twice.
func TestOuts(t *testing.T) {
	const things = "in a: int at 1; in b: int at 1; flow x: int at 1 default 0 = a; flow y: int at 1 default 0 = x; "
	for s, want := range map[string]api.Errno{
		"":                             api.OK,
		"out a;":                       api.OK,
		"out y;":                       api.OK,
		"out y; out a;":                api.OK,
		"out a; out b; out x; out y;":  api.OK,
		"out y; out x; out b; out a;":  api.OK,
		"out z;":                       api.ErrName,
		"out z; out a; out x;":         api.ErrName,
		"out a; out z; out x;":         api.ErrName,
		"out a; out x; out z;":         api.ErrName,
		"out A;":                       api.ErrName,
		"out xx;":                      api.ErrName,
		"out a; out a;":                api.ErrName,
		"out x; out x;":                api.ErrName,
		"out x; out x; out y;":         api.ErrName,
		"out y; out x; out x;":         api.ErrName,
		"out x; out a; out b; out x;":  api.ErrName,
		"out b; out x; out y; out b;":  api.ErrName,
		"out a; out a; out a; out a;":  api.ErrName,
		"out z; out z;":                api.ErrName,
		"out a; out a; out z; out z;":  api.ErrName,
		"out a; out b; out x; out no;": api.ErrName,
	} {
		checks(t, read(t, things+s), want)
	}
}

// P7.1: no Ins, no Flows, no Outs; a list that is empty and one that is nil mean the same.
func TestNothing(t *testing.T) {
	for _, p := range []api.Prog{{Stations: 1}, {Stations: 1, Ins: []api.In{}, Flows: []api.Flow{}, Outs: []string{}}, {Stations: 8, Ins: make([]api.In, 0, 2), Flows: make([]api.Flow, 0, 2), Outs: make([]string, 0, 2)}} {
		checks(t, p, api.OK)
		misses(t, p, "a")
		misses(t, p, "")
	}
	checks(t, program([]string{"a", "b"}, nil), api.OK)
	checks(t, program([]string{"a", "b"}, nil, "b", "a"), api.OK)
	checks(t, program([]string{"a", "b"}, nil, "b", "c"), api.ErrName)
	checks(t, program(nil, plain("x", "y")), api.OK)
	checks(t, program(nil, plain("x", "y"), "x", "y"), api.OK)
	checks(t, program(nil, []api.Flow{flow("x", v("y"))}), api.ErrName)
	checks(t, program([]string{"a"}, []api.Flow{flow("x", v("a"))}), api.OK)
}

// P7.1, P7.2: as many Ins, Flows and Outs as there may be.
func TestFullest(t *testing.T) {
	p := fullest()
	checks(t, p, api.OK)
	for i, h := range headsOf(p) {
		finds(t, p, h.Name, 1, api.TyInt, max(i-api.MaxIns, -1))
	}
	misses(t, p, "none")
	for i := range p.Outs {
		q := copied(p)
		q.Outs[i] = "none"
		checks(t, q, api.ErrName)
		q.Outs[i] = p.Outs[(i+1)%len(p.Outs)]
		checks(t, q, api.ErrName)
	}
	slices.Reverse(p.Outs)
	checks(t, p, api.OK)
	p.Outs = append(p.Outs, "i0")
	checks(t, p, api.ErrArg)
}

// P7.2: a flow is found at its place among Flows, whatever Ins there are.
func TestFindPlaces(t *testing.T) {
	for _, count := range []int{0, 1, 2, api.MaxIns} {
		p := program(numbered("i", count), plain(numbered("f", api.MaxFlows)...))
		for i := range p.Ins {
			p.Ins[i].Station, p.Ins[i].Type = 1+i%8, api.Type(1+i%2)
		}
		for i := range p.Flows {
			p.Flows[i].Station, p.Flows[i].Type = 1+(i+3)%8, api.Type(1+(i+1)%2)
		}
		for i, h := range p.Ins {
			finds(t, p, h.Name, 1+i%8, api.Type(1+i%2), -1)
		}
		for i, f := range p.Flows {
			finds(t, p, f.Name, 1+(i+3)%8, api.Type(1+(i+1)%2), i)
		}
		misses(t, p, fmt.Sprint("i", count))
		misses(t, p, "f128")
	}
}

// P7.2: of several that have the name, the first one; of Ins ahead of Flows.
func TestFindFirst(t *testing.T) {
	p := api.Prog{
		Stations: 8,
		Ins:      []api.In{{Name: "b", Type: api.TyInt, Station: 1}, {Name: "a", Type: api.TyBool, Station: 2}, {Name: "a", Type: api.TyInt, Station: 3}},
		Flows: []api.Flow{
			{Name: "a", Type: api.TyInt, Station: 4, Body: n(1)}, {Name: "x", Type: api.TyInt, Station: 5, Body: n(1)},
			{Name: "x", Type: api.TyBool, Station: 6, Body: n(1)}, {Name: "b", Type: api.TyBool, Station: 7, Body: n(1)},
		},
	}
	finds(t, p, "a", 2, api.TyBool, -1)
	finds(t, p, "b", 1, api.TyInt, -1)
	finds(t, p, "x", 5, api.TyInt, 1)
	p.Flows[1].Name = "y"
	finds(t, p, "x", 6, api.TyBool, 2)
	p.Ins = nil
	finds(t, p, "a", 4, api.TyInt, 0)
	finds(t, p, "b", 7, api.TyBool, 3)
}

// P7.2, R2: beside false there is nothing; a name is none but as it is written, and outs and Bodies tell of none.
func TestFindNothing(t *testing.T) {
	p := exampleProg()
	p.Outs = []string{"o"}
	p.Flows[0].Body = v("q")
	for _, name := range []string{"", "o", "q", "y", "A", "X", "aa", "xx", "a ", " a", "a\x00", "ax", "é", "\xff", "pre", strings.Repeat("a", 1<<20)} {
		misses(t, p, name)
		misses(t, api.Prog{}, name)
		misses(t, api.Prog{Stations: 2, Outs: []string{name}}, name)
	}
}

// P7.2: Find does not ask whether the program may be.
func TestFindInWhatMayNotBe(t *testing.T) {
	odd := []string{"", "pre", "a b", "é", "\xff", "a\x00", "1", strings.Repeat("n", api.MaxName+1)}
	p := api.Prog{Stations: -7}
	for i, name := range odd {
		p.Ins = append(p.Ins, api.In{Name: name + "i", Type: api.Type(i * 30), Station: math.MaxInt - i})
		p.Flows = append(p.Flows, api.Flow{Name: name, Type: api.Type(255 - i), Station: math.MinInt + i, Default: math.MinInt64})
	}
	for i, name := range odd {
		finds(t, p, name+"i", math.MaxInt-i, api.Type(i*30), -1)
		finds(t, p, name, math.MinInt+i, api.Type(255-i), i)
	}
	misses(t, p, "a")
	misses(t, p, "e\u0301")

	many := api.Prog{Ins: slices.Repeat([]api.In{{Name: "i"}}, 1000), Flows: slices.Repeat([]api.Flow{{Name: "f"}}, 1000)}
	many.Flows[999] = api.Flow{Name: "", Station: 8}
	finds(t, many, "i", 0, api.TyNone, -1)
	finds(t, many, "f", 0, api.TyNone, 0)
	finds(t, many, "", 8, api.TyNone, 999)
	many.Ins[999] = api.In{Type: 9}
	finds(t, many, "", 0, 9, -1)
}

// R1: a Body that holds itself is none that may be; Check and Find end.
func TestEndless(t *testing.T) {
	x := of(api.ExAdd, v("a"), v("a"))
	x.Args[1] = x
	p := program([]string{"a", "a"}, []api.Flow{flow("x", x)}, "x")
	checks(t, p, api.ErrArg)
	finds(t, p, "x", 1, api.TyInt, 0)
	misses(t, p, "y")
	deep := v("a")
	for range 1 << 16 {
		deep = of(api.ExPre, deep)
	}
	checks(t, program([]string{"a"}, []api.Flow{flow("x", deep)}), api.ErrArg)
	finds(t, program([]string{"a"}, []api.Flow{flow("x", deep)}), "x", 1, api.TyInt, 0)
}

// P7.1, P7.2: all programs of few things of few names.
func TestAllSmall(t *testing.T) {
	names := []string{"a", "b", "c"}
	bodies := []api.Expr{n(1), v("a"), of(api.ExPre, v("c")), of(api.ExAdd, v("b"), of(api.ExPre, v("a")))}
	var lists [][]string
	for _, x := range names {
		lists = append(lists, []string{x})
		for _, y := range names {
			lists = append(lists, []string{x, y})
		}
	}
	lists = append(lists, nil)
	for _, ins := range lists {
		for _, flows := range lists {
			for i := range len(bodies) * len(bodies) {
				p := program(ins, plain(flows...))
				for j := range p.Flows {
					p.Flows[j].Body = []api.Expr{bodies[i%len(bodies)], bodies[i/len(bodies)]}[j]
				}
				for _, outs := range lists {
					p.Outs = outs
					asTold(t, p, names...)
				}
			}
		}
	}
}

// P7.1, P7.2: many programs, held against the chapter's words.
func TestMany(t *testing.T) {
	next := chance(71)
	count := map[api.Errno]int{}
	for range 3000 {
		p := grown(next, 2+next(12))
		asTold(t, p, append(numbered("n", 30), "none", "")...)
		count[Check(p)]++
	}
	if count[api.OK] < 500 || count[api.ErrName] < 500 || len(count) != 2 {
		t.Errorf("%v", count)
	}
}

// P7.3: in a program that is checked each name is found, and each thing by its name.
func TestEachIsFound(t *testing.T) {
	next := chance(72)
	for range 1000 {
		p := grown(next, 9)
		if Check(p) != api.OK {
			continue
		}
		for _, h := range p.Ins {
			finds(t, p, h.Name, h.Station, h.Type, -1)
		}
		for i, f := range p.Flows {
			finds(t, p, f.Name, f.Station, f.Type, i)
			for _, ref := range exprs.Refs(f.Body) {
				if _, _, _, ok := Find(p, ref.Name); !ok {
					t.Errorf("%s is not found in %v", ref.Name, p)
				}
			}
		}
		for _, name := range p.Outs {
			if _, _, _, ok := Find(p, name); !ok {
				t.Errorf("%s is not found in %v", name, p)
			}
		}
	}
}

// without tells a program with a flow less.
func without(p api.Prog, place int) api.Prog {
	q := copied(p)
	q.Flows = slices.Delete(q.Flows, place, place+1)
	return q
}

// P7.3: a flow less, that nobody asks for, and none of Outs names; and one less that is asked for, or named.
func TestFlowLess(t *testing.T) {
	p := read(t, "in a: int at 1; flow x: int at 1 default 0 = a; flow y: int at 1 default 0 = pre x; flow z: int at 1 default 0 = pre z + y; flow w: int at 1 default 0 = x; out w;")
	checks(t, p, api.OK)
	checks(t, without(p, 0), api.ErrName)
	checks(t, without(p, 1), api.ErrName)
	checks(t, without(p, 2), api.OK) // it alone asks for itself
	checks(t, without(p, 3), api.ErrName)
	finds(t, without(p, 2), "w", 1, api.TyInt, 2)
	misses(t, without(p, 2), "z")

	all := append(numbered("i", api.MaxIns), numbered("f", api.MaxFlows)...)
	full := program(all[:api.MaxIns], plain(all[api.MaxIns:]...), all[:len(all)-1]...)
	checks(t, full, api.OK)
	checks(t, without(full, api.MaxFlows-1), api.OK)
	checks(t, without(full, 0), api.ErrName)
}

// P7.3: the same of many programs.
func TestFlowLessOfMany(t *testing.T) {
	next := chance(73)
	count := map[api.Errno]int{}
	for range 1500 {
		p := grown(next, 8)
		if Check(p) != api.OK {
			continue
		}
		for i, f := range p.Flows {
			want := api.OK
			for j, other := range p.Flows {
				if j != i && slices.ContainsFunc(exprs.Refs(other.Body), func(r api.Ref) bool { return r.Name == f.Name }) {
					want = api.ErrName
				}
			}
			if slices.Contains(p.Outs, f.Name) {
				want = api.ErrName
			}
			if len(p.Outs) == len(p.Ins)+len(p.Flows) { // more outs than things are left
				want = api.ErrArg
			}
			if e := Check(without(p, i)); e != want {
				t.Errorf("%v without flow %d: %d, want %d", p, i, e, want)
			}
			count[want]++
		}
	}
	if count[api.OK] < 100 || count[api.ErrName] < 100 || count[api.ErrArg] == 0 {
		t.Errorf("%v", count)
	}
}

// withRoom tells the same in lists with spare room that is filled.
func withRoom(p api.Prog) (api.Prog, func() bool) {
	allIns := append(slices.Clone(p.Ins), in("spare"), in("spare"))
	allFlows := append(slices.Clone(p.Flows), flow("spare", v("spare")), flow("spare", v("spare")))
	for i, f := range allFlows {
		allFlows[i].Body.Args = append(slices.Clone(f.Body.Args), v("spare"))[:len(f.Body.Args)]
	}
	allOuts := append(slices.Clone(p.Outs), "spare", "spare")
	mine := api.Prog{Stations: p.Stations, Ins: allIns[:len(p.Ins)], Flows: allFlows[:len(p.Flows)], Outs: allOuts[:len(p.Outs)]}
	before := copied(api.Prog{Stations: p.Stations, Ins: allIns, Flows: allFlows, Outs: allOuts})
	return mine, func() bool {
		for _, f := range allFlows {
			if args := f.Body.Args; !sameBody(args[:len(args)+1][len(args)], v("spare")) {
				return false
			}
		}
		return same(api.Prog{Stations: mine.Stations, Ins: allIns, Flows: allFlows, Outs: allOuts}, before) && same(mine, p)
	}
}

// R4: what is handed in stays as it was, its spare room too, whatever is answered; and spare room counts for nothing.
func TestArgumentsStay(t *testing.T) {
	next := chance(74)
	all := []api.Prog{{}, {Stations: 1}, exampleProg(), fullest(), program([]string{"a", "a"}, plain("a", "a"), "b", "b")}
	for range 200 {
		all = append(all, grown(next, 6))
	}
	for _, p := range all {
		mine, stays := withRoom(p)
		if Check(mine) != Check(p) {
			t.Errorf("spare room of %v counts", p)
		}
		for _, name := range []string{"", "n0", "n5", "a", "x", "none", "spare"} {
			asTold(t, mine, name)
		}
		if !stays() {
			t.Errorf("%v is changed", p)
		}
	}
}

// R4: what is handed in is not kept: when its names' bytes change, it is another program.
func TestNothingKept(t *testing.T) {
	name := []byte("abc")
	shared := unsafe.String(&name[0], len(name))
	p := program([]string{shared}, []api.Flow{flow("x", v("abc"))}, "abc")
	checks(t, p, api.OK)
	finds(t, p, "abc", 1, api.TyInt, -1)
	copy(name, "xyz")
	checks(t, p, api.ErrName)
	misses(t, p, "abc")
	finds(t, p, "xyz", 1, api.TyInt, -1)
	checks(t, program([]string{"abc"}, []api.Flow{flow("x", v("abc"))}, "abc"), api.OK)
}

// R5: what is answered hangs on nothing but what is handed in, however many ask at once.
func TestAtOnce(t *testing.T) {
	next := chance(75)
	var all []api.Prog
	for range 100 {
		all = append(all, grown(next, 6))
	}
	var group sync.WaitGroup
	for range 8 {
		group.Go(func() {
			for _, p := range all {
				asTold(t, p, "n0", "n3", "none")
				checks(t, exampleProg(), api.OK)
				misses(t, exampleProg(), "n0")
			}
		})
	}
	group.Wait()
}
