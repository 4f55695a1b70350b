package starts

import (
	"fmt"
	"math"
	"slices"
	"strings"
	"sync"
	"testing"
	"unsafe"

	"belfry/api"
	"belfry/exprs"
	"belfry/names"
	"belfry/progs"
	"belfry/tokens"
)

func v(name string) api.Expr  { return api.Expr{Op: api.ExName, Name: name} }
func n(number int64) api.Expr { return api.Expr{Op: api.ExInt, N: number} }

func yes() api.Expr { return api.Expr{Op: api.ExBool, N: 1} }

func of(op api.Op, parts ...api.Expr) api.Expr { return api.Expr{Op: op, Args: slices.Clone(parts)} }

// pres tells it in that many ExPre.
func pres(count int, x api.Expr) api.Expr {
	for range count {
		x = of(api.ExPre, x)
	}
	return x
}

func in(name string) api.In { return api.In{Name: name, Type: api.TyInt, Station: 1} }

func flow(name string, body api.Expr) api.Flow {
	return api.Flow{Name: name, Type: api.TyInt, Station: 1, Body: body}
}

// exampleProg tells P of the chapter's examples, with a flow besides.
func exampleProg() api.Prog {
	return api.Prog{Stations: 1, Ins: []api.In{in("a")}, Flows: []api.Flow{flow("f", n(1))}}
}

// written tells what is worked out of a text.
func written(t *testing.T, s string) api.Expr {
	t.Helper()
	l, _, e := tokens.Read(s)
	x, next, f := exprs.Parse(l, 0)
	if e != api.OK || f != api.OK || next != len(l) {
		t.Fatalf("%q: %d %d", s, e, f)
	}
	return x
}

// read tells a program with the In a, and the flows of a text as the chapter writes them: x = y, y = x + 1.
func read(t *testing.T, s string) api.Prog {
	t.Helper()
	text := "stations 1; in a: int at 1;"
	for _, f := range strings.Split(s, ", ") {
		if name, body, ok := strings.Cut(f, " = "); ok {
			text += " flow " + name + ": int at 1 default 0 = " + body + ";"
		}
	}
	p, at, e := progs.Parse(text)
	if e != api.OK {
		t.Fatalf("%q: %d at %d", s, e, at)
	}
	return p
}

// shown tells something, but not all of it.
func shown(x any) string { return fmt.Sprintf("%.300s", fmt.Sprint(x)) }

// begins asks Of for an instant.
func begins(t *testing.T, p api.Prog, x api.Expr, want int) {
	t.Helper()
	if i, e := Of(p, x); i != want || e != api.OK {
		t.Errorf("Of(%s, %s) = %d, %d, want the instant %d", shown(p), shown(x), i, e, want)
	}
}

// refuses asks Of for an error, and nothing besides.
func refuses(t *testing.T, p api.Prog, x api.Expr, want api.Errno) {
	t.Helper()
	if i, e := Of(p, x); i != 0 || e != want {
		t.Errorf("Of(%s, %s) = %d, %d, want the error %d", shown(p), shown(x), i, e, want)
	}
}

// checks asks Check for an error.
func checks(t *testing.T, p api.Prog, want api.Errno) {
	t.Helper()
	if e := Check(p); e != want {
		t.Errorf("Check(%s) = %d, want %d", shown(p), e, want)
	}
}

// hasFrom tells, in the chapter's words turned into a question, whether it has a value from that instant on.
func hasFrom(x api.Expr, instant int) bool {
	switch x.Op {
	case api.ExPre:
		return instant > 0 && hasFrom(x.Args[0], instant-1)
	case api.ExThen:
		if instant == 0 {
			return hasFrom(x.Args[0], 0) && hasFrom(x.Args[1], 1)
		}
		return hasFrom(x.Args[1], instant)
	}
	return !slices.ContainsFunc(x.Args, func(part api.Expr) bool { return !hasFrom(part, instant) })
}

// hasAt tells whether it has a value at that instant, as the document's page says what is worked out.
func hasAt(x api.Expr, instant int) bool {
	switch {
	case instant < 0:
		return false
	case x.Op == api.ExPre:
		return hasAt(x.Args[0], instant-1)
	case x.Op == api.ExThen && instant == 0:
		return hasAt(x.Args[0], 0)
	case x.Op == api.ExThen:
		return hasAt(x.Args[1], instant)
	}
	return !slices.ContainsFunc(x.Args, func(part api.Expr) bool { return !hasAt(part, instant) })
}

// told tells what Of answers, in the chapter's words.
func told(p api.Prog, x api.Expr) (int, api.Errno) {
	if !exprs.Check(x) {
		return 0, api.ErrArg
	}
	for _, ref := range exprs.Refs(x) {
		if !slices.Contains(namesOf(p), ref.Name) {
			return 0, api.ErrName
		}
	}
	instant := 0
	for !hasFrom(x, instant) {
		instant++
	}
	return instant, api.OK
}

// toldCheck tells what Check answers, in the chapter's words.
func toldCheck(p api.Prog) api.Errno {
	if e := names.Check(p); e != api.OK {
		return e
	}
	for _, f := range p.Flows {
		if !hasFrom(f.Body, 0) {
			return api.ErrStart
		}
	}
	return api.OK
}

// asTold holds Of against the chapter's words.
func asTold(t *testing.T, p api.Prog, x api.Expr) {
	t.Helper()
	if i, e := told(p, x); e != api.OK {
		refuses(t, p, x, e)
	} else {
		begins(t, p, x, i)
	}
}

// partsOf tells how many parts an operator has.
func partsOf(op api.Op) int {
	switch op {
	case api.ExInt, api.ExBool, api.ExName:
		return 0
	case api.ExNeg, api.ExNot, api.ExPre:
		return 1
	case api.ExIf:
		return 3
	}
	return 2
}

// chance tells numbers that look like chance and are the same in each run.
func chance(seed uint64) func(below int) int {
	return func(below int) int {
		seed = seed*6364136223846793005 + 1442695040888963407
		return int(seed >> 33 % uint64(below))
	}
}

// grown tells one that may be, if it is not too great, at most so deep, of those names; ExPre and ExThen stand in it as often as all others.
func grown(next func(int) int, names []string, deep int) api.Expr {
	if deep == 1 || next(6) == 0 {
		return []api.Expr{n(7), yes(), v(names[next(len(names))]), v(names[next(len(names))])}[next(4)]
	}
	op := []api.Op{api.ExPre, api.ExThen, api.ExNeg + api.Op(next(int(api.ExPre-api.ExNeg)+1)), api.ExNeg + api.Op(next(int(api.ExPre-api.ExNeg)+1))}[next(4)]
	x := of(op)
	for range partsOf(op) {
		x.Args = append(x.Args, grown(next, names, deep-1))
	}
	return x
}

// grownFrom0 tells one that may be, at most so deep and a little more, and has a value from 0 on.
func grownFrom0(next func(int) int, names []string, deep int) api.Expr {
	for {
		x := grown(next, names, deep)
		if !hasFrom(x, 0) {
			x = of(api.ExThen, n(0), x)
		}
		if hasFrom(x, 0) && exprs.Check(x) {
			return x
		}
	}
}

// grownProg tells a program all of whose names are there and all of whose flows have a beginning.
func grownProg(next func(int) int, most int) api.Prog {
	p := api.Prog{Stations: 1}
	for i := range next(most + 1) {
		p.Ins = append(p.Ins, in(fmt.Sprint("i", i)))
	}
	for i := range 1 + next(most) {
		p.Flows = append(p.Flows, flow(fmt.Sprint("f", i), n(0)))
	}
	for i := range p.Flows {
		p.Flows[i].Body = grownFrom0(next, namesOf(p), 1+next(5))
	}
	return p
}

// namesOf tells the names of all its things.
func namesOf(p api.Prog) []string {
	var l []string
	for _, head := range p.Ins {
		l = append(l, head.Name)
	}
	for _, f := range p.Flows {
		l = append(l, f.Name)
	}
	return l
}

func sameBody(x, y api.Expr) bool {
	return x.Op == y.Op && x.N == y.N && x.Name == y.Name && slices.EqualFunc(x.Args, y.Args, sameBody)
}

func same(p, q api.Prog) bool {
	return p.Stations == q.Stations && slices.Equal(p.Ins, q.Ins) && slices.Equal(p.Outs, q.Outs) &&
		slices.EqualFunc(p.Flows, q.Flows, func(f, g api.Flow) bool {
			return f.Name == g.Name && f.Type == g.Type && f.Station == g.Station && f.Default == g.Default && sameBody(f.Body, g.Body)
		})
}

func copiedBody(x api.Expr) api.Expr {
	x.Args = slices.Clone(x.Args)
	for i, part := range x.Args {
		x.Args[i] = copiedBody(part)
	}
	return x
}

// copied tells the same in memory of its own.
func copied(p api.Prog) api.Prog {
	p.Ins, p.Flows, p.Outs = slices.Clone(p.Ins), slices.Clone(p.Flows), slices.Clone(p.Outs)
	for i, f := range p.Flows {
		p.Flows[i].Body = copiedBody(f.Body)
	}
	return p
}

// P10.1, P10.2: the chapter's examples.
func TestExamples(t *testing.T) {
	p := api.Prog{Stations: 1, Ins: []api.In{in("a")}}
	for s, want := range map[string]int{
		"a + 1": 0, "pre a": 1, "0 -> pre a": 0, "0 -> pre pre a": 2, "pre (0 -> pre a)": 1,
		"pre pre a -> a": 1, "0 -> pre (0 -> pre a)": 0, "if true then a else pre a": 1,
	} {
		begins(t, p, written(t, s), want)
	}
	refuses(t, p, written(t, "c"), api.ErrName)
	checks(t, read(t, "x = pre x"), api.ErrStart)
	checks(t, read(t, "x = 0 -> pre x"), api.OK)
}

// P10.1: a number, yes or no, and a name have a value from 0 on, whatever the program is.
func TestOfNothing(t *testing.T) {
	for _, p := range []api.Prog{{}, exampleProg(), {Ins: []api.In{{Name: "a"}}}} {
		for _, number := range []int64{0, 1, 2, math.MaxInt64} {
			begins(t, p, n(number), 0)
			begins(t, p, pres(3, n(number)), 3)
		}
		begins(t, p, yes(), 0)
		begins(t, p, api.Expr{Op: api.ExBool}, 0)
		begins(t, p, api.Expr{Op: api.ExBool, Args: []api.Expr{}}, 0)
		begins(t, p, of(api.ExPre, yes()), 1)
	}
	begins(t, exampleProg(), v("a"), 0)
	begins(t, exampleProg(), v("f"), 0)
	begins(t, exampleProg(), api.Expr{Op: api.ExName, Name: "f", Args: []api.Expr{}}, 0)
	begins(t, exampleProg(), of(api.ExPre, v("f")), 1)
}

// P10.1: each operator but ExPre and ExThen begins with the last of its parts, wherever that one stands.
func TestLatestPart(t *testing.T) {
	p := exampleProg()
	for op := api.ExNeg; op <= api.ExIf; op++ {
		count := partsOf(op)
		begins(t, p, of(op, slices.Repeat([]api.Expr{v("a")}, count)...), 0)
		for place := range count {
			for _, latest := range []int{1, 2, 5, api.MaxDeep - 2} {
				for _, other := range []int{0, 1, latest / 2, latest - 1} {
					parts := slices.Repeat([]api.Expr{pres(other, v("f"))}, count)
					parts[place] = pres(latest, v("a"))
					begins(t, p, of(op, parts...), latest)
				}
			}
		}
	}
	begins(t, p, written(t, "if pre pre pre a then pre a else pre pre a"), 3)
	begins(t, p, written(t, "if pre a then pre pre pre a else pre pre a"), 3)
	begins(t, p, written(t, "if pre a then pre pre a else pre pre pre a"), 3)
	begins(t, p, written(t, "if pre pre pre a then pre pre pre a else pre pre pre a"), 3)
}

// P10.1: ExPre is one instant later than what it is of, whatever that is.
func TestPre(t *testing.T) {
	p := exampleProg()
	for s, want := range map[string]int{
		"pre 1": 1, "pre true": 1, "pre a": 1, "pre f": 1, "pre pre f": 2, "pre (a + pre f)": 2, "pre -pre pre a": 3, "pre (0 -> a)": 1, "pre (0 -> pre pre a)": 3,
		"pre (pre a -> a)": 2, "pre pre (0 -> pre a)": 2, "not pre not pre not a": 2, "pre (if pre a then pre pre a else 1)": 3,
	} {
		begins(t, p, written(t, s), want)
	}
}

// P10.1: a beginning, of parts of all instants.
func TestThen(t *testing.T) {
	p := exampleProg()
	for first := range 8 {
		for second := range api.MaxDeep - 1 {
			want := second
			switch {
			case first == 0 && second < 2:
				want = 0
			case second == 0:
				want = 1
			}
			begins(t, p, of(api.ExThen, pres(first, v("a")), pres(second, v("f"))), want)
		}
	}
	begins(t, p, of(api.ExThen, pres(api.MaxDeep-2, v("a")), v("a")), 1)
	begins(t, p, of(api.ExThen, pres(api.MaxDeep-2, v("a")), pres(api.MaxDeep-2, v("a"))), api.MaxDeep-2)
}

// P10.1: a first part that has no value from 0 on.
func TestThenBeginsLate(t *testing.T) {
	p := exampleProg()
	for _, first := range []string{"pre a", "pre pre a", "pre pre pre pre a", "(a + pre 1)", "(pre a -> a)", "(0 -> pre pre a)", "pre (0 -> a)"} {
		for second, want := range map[string]int{
			"a": 1, "1": 1, "(0 -> pre a)": 1, "pre a": 1, "(pre a -> a)": 1, "-pre f": 1, "pre pre a": 2, "pre (1 + pre a)": 2, "(0 -> pre pre a)": 2, "pre pre pre a": 3, "pre pre pre pre pre pre pre a": 7,
		} {
			begins(t, p, written(t, first+" -> "+second), want)
		}
	}
}

// P10.1: a beginning within a beginning.
func TestThenWithinThen(t *testing.T) {
	p := exampleProg()
	for s, want := range map[string]int{
		"(0 -> a) -> pre a": 0, "(0 -> pre a) -> pre a": 0, "(0 -> pre a) -> pre pre a": 2, "(pre a -> a) -> a": 1, "(pre a -> a) -> pre a": 1, "(pre a -> pre pre a) -> a": 1,
		"(0 -> pre pre a) -> a": 1, "(0 -> pre pre a) -> pre a": 1, "(0 -> pre pre a) -> pre pre pre a": 3, "((0 -> pre a) -> pre a) -> pre a": 0, "((pre 0 -> a) -> a) -> a": 1,
		"0 -> 0 -> pre a": 0, "0 -> 0 -> pre pre a": 2, "0 -> pre a -> a": 0, "0 -> pre a -> pre a": 0, "0 -> pre pre a -> a": 0, "0 -> pre a -> pre pre a": 2, "pre a -> 0 -> pre a": 1, "0 -> 0 -> 0 -> pre a": 0,
		"0 -> pre (0 -> pre a)": 0, "0 -> pre (0 -> pre pre a)": 3, "0 -> pre (pre a -> a)": 2, "0 -> pre pre (0 -> pre a)": 2, "0 -> 1 + (2 -> pre a)": 0, "0 -> pre a + (2 -> pre pre a)": 2,
		"0 -> pre (0 -> pre (0 -> pre a))": 0, "0 -> pre (0 -> pre (0 -> pre pre a))": 4, "(0 -> pre a) + (0 -> pre pre a)": 2, "pre (0 -> pre (0 -> pre a))": 1,
	} {
		begins(t, p, written(t, s), want)
	}
}

// P10.1, P10.3: a row of ExPre, as deep as there may be.
func TestRowOfPre(t *testing.T) {
	p := exampleProg()
	for _, leaf := range []api.Expr{v("a"), v("f"), n(1), yes()} {
		for count := range api.MaxDeep {
			begins(t, p, pres(count, leaf), count)
		}
		refuses(t, p, pres(api.MaxDeep, leaf), api.ErrArg)

		begins(t, p, of(api.ExThen, n(0), leaf), 0)
		begins(t, p, of(api.ExThen, n(0), pres(1, leaf)), 0)
		for count := 2; count < api.MaxDeep-1; count++ {
			begins(t, p, of(api.ExThen, n(0), pres(count, leaf)), count)
		}
		refuses(t, p, of(api.ExThen, n(0), pres(api.MaxDeep-1, leaf)), api.ErrArg)

		x := leaf
		for range (api.MaxDeep - 1) / 2 {
			x = of(api.ExThen, n(0), of(api.ExPre, x))
			begins(t, p, x, 0)
		}
		begins(t, p, of(api.ExPre, x), 1)
		refuses(t, p, of(api.ExThen, n(0), of(api.ExPre, x)), api.ErrArg)
	}
}

// P10.1: a name is one of Ins or of Flows, and its flow's Body does not count; or it is not there, and that is told whatever stands beside it.
func TestNames(t *testing.T) {
	p := exampleProg()
	p.Flows = append(p.Flows, flow("late", pres(5, v("a"))), flow("lost", v("none")))
	p.Outs = []string{"o"}
	for _, name := range []string{"a", "f", "late", "lost"} {
		begins(t, p, v(name), 0)
		begins(t, p, of(api.ExThen, n(0), of(api.ExPre, v(name))), 0)
	}
	for _, name := range []string{"c", "A", "F", "aa", "o", "none", "lat", "late_"} {
		refuses(t, p, v(name), api.ErrName)
		refuses(t, api.Prog{}, v(name), api.ErrName)
		for _, s := range []string{
			"-NAME", "pre NAME", "pre pre pre NAME", "NAME + 1", "1 + NAME", "NAME + pre pre a", "pre pre a + NAME", "pre a -> NAME", "NAME -> pre pre a", "0 -> NAME", "NAME -> a", "0 -> pre pre NAME",
			"if NAME then pre a else 1", "if pre a then NAME else 1", "if pre a then pre pre a else NAME", "a + f + pre (late -> pre pre (1 + -(2 * NAME)))", "NAME + NAME", "a + a + a + NAME + a",
		} {
			refuses(t, p, written(t, strings.ReplaceAll(s, "NAME", name)), api.ErrName)
			asTold(t, p, written(t, strings.ReplaceAll(s, "NAME", "a")))
			asTold(t, p, written(t, strings.ReplaceAll(s, "NAME", "late")))
		}
	}
	refuses(t, p, pres(api.MaxDeep-1, v("c")), api.ErrName)
	refuses(t, p, of(api.ExAdd, pres(api.MaxDeep-2, v("a")), pres(api.MaxDeep-2, v("c"))), api.ErrName)
}

// P10.1, R1, R2: what may not be is told ahead of names that are not there; none panics.
func TestMayNotBe(t *testing.T) {
	all := []api.Expr{
		{}, {Op: api.ExNone, Name: "c"}, n(-1), n(math.MinInt64), {Op: api.ExInt, Name: "c"}, {Op: api.ExBool, N: 2}, {Op: api.ExBool, N: -1}, {Op: api.ExName}, v("pre"), v("a b"), v(strings.Repeat("n", api.MaxName+1)), {Op: api.ExName, Name: "c", N: 1},
		{Op: api.ExInt, Args: []api.Expr{v("c")}}, {Op: api.ExName, Name: "c", Args: []api.Expr{v("c")}}, {Op: api.ExThen, N: 1, Args: []api.Expr{v("c"), v("c")}}, {Op: api.ExPre, Name: "c", Args: []api.Expr{v("c")}},
		of(api.ExThen, v("c"), of(api.ExThen, v("c"))), of(api.ExIf, v("c"), v("c"), api.Expr{}), of(api.ExPre, of(api.ExPre)),
	}
	for op := range 256 {
		for count := range 6 {
			for _, part := range []api.Expr{n(1), yes(), v("a"), v("c"), of(api.ExPre, v("c"))} {
				if x := of(api.Op(op), slices.Repeat([]api.Expr{part}, count)...); !exprs.Check(x) {
					all = append(all, x)
				}
			}
		}
	}
	withC := exampleProg()
	withC.Ins = append(withC.Ins, in("c"))
	for _, p := range []api.Prog{{}, exampleProg(), withC} {
		for _, x := range all {
			refuses(t, p, x, api.ErrArg)
			refuses(t, p, of(api.ExPre, x), api.ErrArg)
			refuses(t, p, of(api.ExThen, v("c"), x), api.ErrArg)
			refuses(t, p, of(api.ExThen, x, v("c")), api.ErrArg)
			refuses(t, p, of(api.ExPre, of(api.ExIf, v("c"), yes(), x)), api.ErrArg)
		}
	}
}

// wide tells a sum of that many parts, as shallow as it can be.
func wide(count int, part api.Expr) api.Expr {
	if count == 1 {
		return part
	}
	return of(api.ExAdd, wide(count/2, part), wide(count-count/2, part))
}

// P10.1, R1: as great as it may be, and one more; much too deep; one that holds itself.
func TestGreatAndDeep(t *testing.T) {
	p := exampleProg()
	begins(t, p, wide(api.MaxSize/2, v("a")), 0)
	begins(t, p, of(api.ExPre, wide(api.MaxSize/2, v("a"))), 1)
	begins(t, p, of(api.ExThen, v("a"), wide(api.MaxSize/2-1, v("a"))), 0)
	refuses(t, p, of(api.ExPre, wide(api.MaxSize/2, v("c"))), api.ErrName)
	refuses(t, p, wide(api.MaxSize/2+1, v("a")), api.ErrArg)
	refuses(t, p, wide(api.MaxSize/2+1, v("c")), api.ErrArg)

	deep := pres(1<<16-1, v("c"))
	refuses(t, p, deep, api.ErrArg)
	checks(t, api.Prog{Stations: 1, Flows: []api.Flow{flow("x", deep)}}, api.ErrArg)
	round := of(api.ExThen, v("c"), v("c"))
	round.Args[0], round.Args[1] = round, round
	refuses(t, p, round, api.ErrArg)
	checks(t, api.Prog{Stations: 1, Flows: []api.Flow{flow("x", round)}}, api.ErrArg)
}

// P10.1, R1: the program need not be one that may be.
func TestOfInWhatMayNotBe(t *testing.T) {
	begins(t, api.Prog{}, written(t, "0 -> pre pre 1"), 2)
	refuses(t, api.Prog{}, v("a"), api.ErrName)
	begins(t, api.Prog{Ins: []api.In{{Name: "a", Type: 9, Station: -4}}}, written(t, "pre a"), 1)

	p := exampleProg()
	p.Stations = -1
	p.Outs = slices.Repeat([]string{"pre"}, 1000)
	p.Flows = []api.Flow{{}, {Name: "x", Default: math.MinInt64, Body: of(api.ExThen, v("none"))}, {Name: "a", Body: of(api.ExPre)}, {Name: "pre"}}
	begins(t, p, written(t, "pre a -> pre pre x"), 2)
	begins(t, p, written(t, "0 -> pre (x + a)"), 0)
	refuses(t, p, written(t, "pre a -> none"), api.ErrName)
	refuses(t, p, v("pre"), api.ErrArg)
	refuses(t, p, v(""), api.ErrArg)

	round := of(api.ExPre, v("a"))
	round.Args[0] = round
	p.Flows[0] = flow("y", round)
	begins(t, p, written(t, "pre y + pre pre a"), 2)

	many := api.Prog{Ins: slices.Repeat([]api.In{in("i")}, 1000), Flows: slices.Repeat([]api.Flow{flow("g", n(1))}, 1000)}
	many.Ins[999], many.Flows[999] = in("a"), flow("b", n(1))
	begins(t, many, written(t, "pre a -> pre pre (b + i + g)"), 2)
	refuses(t, many, written(t, "pre a -> pre pre (b + i + h)"), api.ErrName)
}

// P10.2: programs whose flows all have a value from 0 on, and programs that have one without.
func TestCheck(t *testing.T) {
	for s, want := range map[string]api.Errno{
		"x = 1": api.OK, "x = a": api.OK, "x = 0 -> pre x + 1": api.OK, "x = a -> pre a": api.OK, "x = 0 -> pre (0 -> pre x)": api.OK, "x = 0 -> pre x -> pre a": api.OK,
		"x = x": api.OK, "x = y, y = x": api.OK, "x = 0 -> pre y, y = 1 -> pre x": api.OK, "x = 1 + true": api.OK, "x = a, y = x, z = 0 -> pre (x + y)": api.OK,
		"x = pre a": api.ErrStart, "x = pre 1": api.ErrStart, "x = 0 -> pre pre x": api.ErrStart, "x = pre a -> a": api.ErrStart, "x = pre (0 -> pre x)": api.ErrStart, "x = (0 -> pre pre a) -> a": api.ErrStart,
		"x = 0 -> pre (0 -> pre pre x)": api.ErrStart, "x = if true then a else pre a": api.ErrStart, "x = (0 -> pre a) + pre a": api.ErrStart, "x = pre x, y = x": api.ErrStart, "x = y, y = pre x": api.ErrStart,
		"x = 0 -> pre y, y = pre x": api.ErrStart, "x = x + pre x": api.ErrStart, "x = pre (1 + true)": api.ErrStart, "x = 1, y = pre x, z = y": api.ErrStart,
	} {
		checks(t, read(t, s), want)
	}
}

// P10.2, R4: no Flows; a list that is empty and one that is nil mean the same.
func TestNoFlows(t *testing.T) {
	for _, p := range []api.Prog{
		{Stations: 1}, {Stations: 8, Ins: []api.In{}, Flows: []api.Flow{}, Outs: []string{}}, {Stations: 1, Flows: make([]api.Flow, 0, 3)},
		{Stations: 1, Ins: []api.In{in("a"), in("b")}, Outs: []string{"b", "a"}},
	} {
		checks(t, p, api.OK)
		refuses(t, p, v("none"), api.ErrName)
	}
	checks(t, api.Prog{}, api.ErrArg)
}

// fullest tells a program with as many Ins and Flows as there may be, each flow of the one ahead of it.
func fullest() api.Prog {
	p := api.Prog{Stations: 1}
	for i := range api.MaxIns {
		p.Ins = append(p.Ins, in(fmt.Sprint("i", i)))
	}
	for i := range api.MaxFlows {
		p.Flows = append(p.Flows, flow(fmt.Sprint("f", i), of(api.ExThen, v(fmt.Sprint("i", i%api.MaxIns)), of(api.ExPre, v(fmt.Sprint("f", max(i-1, 0)))))))
	}
	return p
}

// P10.2: what has no beginning is told of each one of Flows: of the first, of the last, of all between.
func TestCheckOfEachFlow(t *testing.T) {
	checks(t, fullest(), api.OK)
	for i := range api.MaxFlows {
		for _, body := range []api.Expr{pres(1, v("f0")), pres(api.MaxDeep-1, n(1)), of(api.ExThen, n(0), pres(2, v("f1"))), of(api.ExThen, pres(1, v("i0")), n(1)), of(api.ExIf, yes(), n(1), pres(1, n(1)))} {
			p := fullest()
			p.Flows[i].Body = body
			checks(t, p, api.ErrStart)
			p.Flows[i].Body = of(api.ExThen, n(0), v("f0"))
			checks(t, p, api.OK)
		}
	}
	for i, name := range []string{"x", "y", "z"} {
		p := read(t, "x = a, y = x, z = y")
		p.Flows[i].Body = of(api.ExPre, v(name))
		checks(t, p, api.ErrStart)
	}
}

// P10.2, R2: what names.Check answers comes first.
func TestCheckNamesFirst(t *testing.T) {
	const late = "w = pre w, w1 = 0 -> pre pre w, "
	for _, rest := range []string{"x = y", "x = pre y", "x = 0 -> pre y", "x = pre pre y -> a", "a = 1", "a = pre a", "x = 1, x = 2", "x = pre x, x = 1"} {
		checks(t, read(t, rest), api.ErrName)
		checks(t, read(t, late+rest), api.ErrName)
		checks(t, read(t, rest+", "+late), api.ErrName)
		p := read(t, late+rest)
		p.Stations = 0
		checks(t, p, api.ErrArg)
	}
	checks(t, read(t, late), api.ErrStart)
	for _, outs := range [][]string{{"o"}, {"a", "a"}, {"w", "w"}, {"w", "w1", "o"}} {
		p := read(t, late)
		p.Outs = outs
		checks(t, p, api.ErrName)
	}
	twice := read(t, late)
	twice.Ins = append(twice.Ins, in("a"))
	checks(t, twice, api.ErrName)
	for what, spoil := range map[string]func(p *api.Prog){
		"no stations":      func(p *api.Prog) { p.Stations = 0 },
		"too many":         func(p *api.Prog) { p.Stations = api.MaxStations + 1 },
		"a flow's type":    func(p *api.Prog) { p.Flows[0].Type = api.TyNone },
		"an In's type":     func(p *api.Prog) { p.Ins[0].Type = 3 },
		"a flow's station": func(p *api.Prog) { p.Flows[1].Station = 2 },
		"a flow's name":    func(p *api.Prog) { p.Flows[1].Name = "pre" },
		"a Body":           func(p *api.Prog) { p.Flows[1].Body = api.Expr{} },
		"a Body's part":    func(p *api.Prog) { p.Flows[1].Body = of(api.ExPre, of(api.ExThen, n(0))) },
		"a Body too deep":  func(p *api.Prog) { p.Flows[1].Body = pres(api.MaxDeep, n(1)) },
		"a Default":        func(p *api.Prog) { p.Flows[1].Default = math.MinInt64 },
		"an out":           func(p *api.Prog) { p.Outs = []string{"pre"} },
	} {
		for _, rest := range []string{"", late, "x = y", late + "x = y"} {
			p := read(t, "g = 1, h = 2, "+rest)
			spoil(&p)
			if e := Check(p); e != api.ErrArg {
				t.Errorf("%s: Check(%s) = %d", what, shown(p), e)
			}
		}
	}
}

// P10.1: many that are worked out, held against the chapter's words; from its instant on each has a value, as the document's page says.
func TestMany(t *testing.T) {
	next := chance(101)
	count := map[int]int{}
	p := exampleProg()
	for range 30000 {
		x := grown(next, []string{"a", "f"}, 1+next(7))
		if next(9) == 0 {
			x = grown(next, []string{"a", "f", "none"}, 4)
		}
		asTold(t, p, x)
		instant, e := Of(p, x)
		if e != api.OK {
			count[-int(e)]++
			continue
		}
		count[instant]++
		for i := range 3 {
			if !hasAt(x, instant+i) {
				t.Errorf("Of(%s) = %d, but at %d there is none", shown(x), instant, instant+i)
			}
		}
	}
	if count[0] < 3000 || count[1] < 1000 || count[2] < 1000 || count[3] < 300 || count[4] < 100 || count[-int(api.ErrName)] < 300 {
		t.Errorf("%v", count)
	}
}

// P10.2: many programs, held against the chapter's words, and Check against Of.
func TestManyPrograms(t *testing.T) {
	next := chance(102)
	count := map[api.Errno]int{}
	for range 3000 {
		p := grownProg(next, 1+next(10))
		checks(t, p, api.OK)
		place := next(len(p.Flows))
		switch next(3) {
		case 0:
			p.Flows[place].Body = grown(next, append(namesOf(p), "none"), 3)
		case 1:
			p.Flows[place].Body = grown(next, namesOf(p), 4)
		case 2:
			p.Flows[place].Body = of(api.ExPre, p.Flows[place].Body)
		}
		checks(t, p, toldCheck(p))
		e := Check(p)
		count[e]++
		if instant, f := Of(p, p.Flows[place].Body); (f == api.OK && instant == 0) != (e == api.OK) {
			t.Errorf("Check(%s) = %d, but Of the flow %d = %d, %d", shown(p), e, place, instant, f)
		}
	}
	if count[api.OK] < 300 || count[api.ErrName] < 50 || count[api.ErrStart] < 300 {
		t.Errorf("%v", count)
	}
}

// places tells each part of it (itself too), to be exchanged.
func places(x *api.Expr) []*api.Expr {
	l := []*api.Expr{x}
	for i := range x.Args {
		l = append(l, places(&x.Args[i])...)
	}
	return l
}

// P10.3: a part with a value from 0 on in the place of another one makes no instant greater.
func TestExchange(t *testing.T) {
	next := chance(103)
	p := exampleProg()
	all := []string{"a", "f"}
	sooner := 0
	for range 1500 {
		x := grown(next, all, 6)
		before, e := Of(p, x)
		if e != api.OK {
			continue
		}
		for i := range places(&x) {
			for _, part := range []api.Expr{n(1), v("a"), grownFrom0(next, all, 3)} {
				y := copiedBody(x)
				*places(&y)[i] = part
				instant, e := Of(p, y)
				if e == api.OK && instant > before || e == api.ErrName {
					t.Errorf("Of(%s) = %d, Of(%s) = %d, %d", shown(x), before, shown(y), instant, e)
				}
				if instant < before {
					sooner++
				}
			}
		}
	}
	if sooner < 1000 {
		t.Errorf("sooner: %d", sooner)
	}
}

// P10.3: behind a beginning one ExPre is no loss, of two one is, of whatever has a value from 0 on.
func TestBehindThen(t *testing.T) {
	next := chance(104)
	p := exampleProg()
	all := []string{"a", "f"}
	for range 1000 {
		x, first := grownFrom0(next, all, 4), grownFrom0(next, all, 2)
		if !exprs.Check(of(api.ExThen, first, pres(2, x))) {
			continue
		}
		begins(t, p, x, 0)
		begins(t, p, of(api.ExThen, first, x), 0)
		begins(t, p, of(api.ExThen, first, pres(1, x)), 0)
		begins(t, p, of(api.ExThen, first, pres(2, x)), 2)
		q := exampleProg()
		q.Flows[0].Body = of(api.ExThen, first, pres(1, x))
		checks(t, q, api.OK)
		q.Flows[0].Body = of(api.ExThen, first, pres(2, x))
		checks(t, q, api.ErrStart)
		q.Flows[0].Body = of(api.ExThen, first, of(api.ExPre, of(api.ExThen, first, pres(1, x))))
		checks(t, q, toldCheck(q))
	}
}

// bodyWithRoom tells the same in lists with spare room that is filled.
func bodyWithRoom(x api.Expr) api.Expr {
	l := make([]api.Expr, 0, len(x.Args)+1)
	for _, part := range x.Args {
		l = append(l, bodyWithRoom(part))
	}
	x.Args = append(l, v("spare"))[:len(l)]
	return x
}

// roomStays tells whether its spare room is as it was.
func roomStays(x api.Expr) bool {
	return sameBody(x.Args[:len(x.Args)+1][len(x.Args)], v("spare")) && !slices.ContainsFunc(x.Args, func(part api.Expr) bool { return !roomStays(part) })
}

// withRoom tells the same in lists with spare room that is filled, and whether it is still so.
func withRoom(p api.Prog) (api.Prog, func() bool) {
	allIns := append(slices.Clone(p.Ins), in("spare"))
	allFlows := append(slices.Clone(p.Flows), flow("spare", v("spare")))
	for i, f := range allFlows {
		allFlows[i].Body = bodyWithRoom(f.Body)
	}
	allOuts := append(slices.Clone(p.Outs), "spare")
	mine := api.Prog{Stations: p.Stations, Ins: allIns[:len(p.Ins)], Flows: allFlows[:len(p.Flows)], Outs: allOuts[:len(p.Outs)]}
	before := copied(api.Prog{Stations: p.Stations, Ins: allIns, Flows: allFlows, Outs: allOuts})
	return mine, func() bool {
		for _, f := range allFlows {
			if !roomStays(f.Body) {
				return false
			}
		}
		return same(api.Prog{Stations: mine.Stations, Ins: allIns, Flows: allFlows, Outs: allOuts}, before) && same(mine, p)
	}
}

// R4: what is handed in stays as it was, its spare room too, whatever is answered; and spare room counts for nothing.
func TestArgumentsStay(t *testing.T) {
	next := chance(105)
	all := []api.Prog{{}, exampleProg(), fullest(), read(t, "x = pre x"), read(t, "x = y"), read(t, "x = pre y, x = 1")}
	for range 200 {
		all = append(all, grownProg(next, 6))
	}
	for _, p := range all {
		mine, stays := withRoom(p)
		if Check(mine) != Check(p) {
			t.Errorf("spare room of %s counts", shown(p))
		}
		for range 5 {
			x := bodyWithRoom(grown(next, append(namesOf(p), "spare"), 5))
			before := copiedBody(x)
			asTold(t, mine, x)
			if !sameBody(x, before) || !roomStays(x) {
				t.Errorf("%s is changed", shown(before))
			}
		}
		refuses(t, mine, v("spare"), api.ErrName)
		refuses(t, mine, bodyWithRoom(of(api.ExThen, v("spare"))), api.ErrArg)
		if !stays() {
			t.Errorf("%s is changed", shown(p))
		}
	}
}

// R4: what is handed in is not kept: when its names' bytes change, it is another program.
func TestNothingKept(t *testing.T) {
	name := []byte("abc")
	shared := unsafe.String(&name[0], len(name))
	p := api.Prog{Stations: 1, Ins: []api.In{in(shared), in("xyz")}, Flows: []api.Flow{flow("x", of(api.ExPre, v("abc")))}}
	checks(t, p, api.ErrStart)
	begins(t, p, of(api.ExPre, v("abc")), 1)
	copy(name, "uvw")
	checks(t, p, api.ErrName)
	refuses(t, p, of(api.ExPre, v("abc")), api.ErrName)
	begins(t, p, of(api.ExPre, v("uvw")), 1)
	p.Flows[0].Body.Args[0] = v("uvw")
	checks(t, p, api.ErrStart)
	p.Flows[0].Body.Op = api.ExNeg
	checks(t, p, api.OK)
}

// R5: what is answered hangs on nothing but what is handed in, however many ask at once.
func TestAtOnce(t *testing.T) {
	next := chance(106)
	var all []api.Prog
	for range 60 {
		p := grownProg(next, 6)
		p.Flows[0].Body = grown(next, append(namesOf(p), "none"), 4)
		all = append(all, p)
	}
	var group sync.WaitGroup
	for range 8 {
		group.Go(func() {
			for _, p := range all {
				checks(t, p, toldCheck(p))
				asTold(t, p, p.Flows[0].Body)
				asTold(t, exampleProg(), p.Flows[0].Body)
				begins(t, exampleProg(), of(api.ExPre, v("a")), 1)
			}
		})
	}
	group.Wait()
}
