package types

import (
	"fmt"
	"math"
	"slices"
	"strings"
	"sync"
	"testing"
	"unsafe"

	"belfry/api"
	"belfry/exprs"
	"belfry/names"
	"belfry/progs"
	"belfry/tokens"
)

func v(name string) api.Expr  { return api.Expr{Op: api.ExName, Name: name} }
func n(number int64) api.Expr { return api.Expr{Op: api.ExInt, N: number} }

func yes() api.Expr { return api.Expr{Op: api.ExBool, N: 1} }

func of(op api.Op, parts ...api.Expr) api.Expr { return api.Expr{Op: op, Args: slices.Clone(parts)} }

func in(name string, kind api.Type) api.In { return api.In{Name: name, Type: kind, Station: 1} }

func flow(name string, kind api.Type, value int64, body api.Expr) api.Flow {
	return api.Flow{Name: name, Type: kind, Station: 1, Default: value, Body: body}
}

// exampleProg tells P of the chapter's examples.
func exampleProg() api.Prog {
	return api.Prog{Stations: 1, Ins: []api.In{in("a", api.TyInt), in("b", api.TyBool)}}
}

// oddProg tells one with names of all kinds of types: i and j of TyInt, b and c of TyBool, and some whose type is none of values.
func oddProg() api.Prog {
	return api.Prog{
		Ins: []api.In{in("i", api.TyInt), in("b", api.TyBool), in("n0", api.TyNone), in("n3", 3), in("n255", 255)},
		Flows: []api.Flow{
			flow("j", api.TyInt, 0, n(1)), flow("c", api.TyBool, 0, n(1)), flow("m0", api.TyNone, 0, n(1)), flow("m3", 3, 0, n(1)), flow("m255", 255, 0, n(1)),
		},
	}
}

// written tells what is worked out of a text.
func written(t *testing.T, s string) api.Expr {
	t.Helper()
	l, _, e := tokens.Read(s)
	x, next, f := exprs.Parse(l, 0)
	if e != api.OK || f != api.OK || next != len(l) {
		t.Fatalf("%q: %d %d", s, e, f)
	}
	return x
}

// read tells the program of a text behind its stations.
func read(t *testing.T, s string) api.Prog {
	t.Helper()
	p, at, e := progs.Parse("stations 2; " + s)
	if e != api.OK {
		t.Fatalf("%q: %d at %d", s, e, at)
	}
	return p
}

// shown tells something, but not all of it.
func shown(x any) string { return fmt.Sprintf("%.300s", fmt.Sprint(x)) }

// has asks Of for a type.
func has(t *testing.T, p api.Prog, x api.Expr, want api.Type) {
	t.Helper()
	if k, e := Of(p, x); k != want || e != api.OK {
		t.Errorf("Of(%s, %s) = %d, %d, want the type %d", shown(p), shown(x), k, e, want)
	}
}

// refuses asks Of for an error, and nothing besides.
func refuses(t *testing.T, p api.Prog, x api.Expr, want api.Errno) {
	t.Helper()
	if k, e := Of(p, x); k != api.TyNone || e != want {
		t.Errorf("Of(%s, %s) = %d, %d, want the error %d", shown(p), shown(x), k, e, want)
	}
}

// checks asks Check for an error.
func checks(t *testing.T, p api.Prog, want api.Errno) {
	t.Helper()
	if e := Check(p); e != want {
		t.Errorf("Check(%s) = %d, want %d", shown(p), e, want)
	}
}

// taken tells, of each operator, the types of its parts that it takes, and its own then: i is TyInt, b is TyBool.
func taken(op api.Op) string {
	switch op {
	case api.ExInt:
		return ">i"
	case api.ExBool:
		return ">b"
	case api.ExNeg:
		return "i>i"
	case api.ExNot:
		return "b>b"
	case api.ExAdd, api.ExSub, api.ExMul, api.ExDiv, api.ExMod:
		return "ii>i"
	case api.ExEq, api.ExNe:
		return "ii>b bb>b"
	case api.ExLt, api.ExLe:
		return "ii>b"
	case api.ExAnd, api.ExOr:
		return "bb>b"
	case api.ExIf:
		return "bii>i bbb>b"
	case api.ExThen:
		return "ii>i bb>b"
	case api.ExPre:
		return "i>i b>b"
	}
	return ""
}

// letter tells i of TyInt, b of TyBool, and a sign that stands nowhere else of all others.
func letter(t api.Type) string {
	switch t {
	case api.TyInt:
		return "i"
	case api.TyBool:
		return "b"
	}
	return "?"
}

// toldLetter tells the type in the chapter's words, as a letter.
func toldLetter(p api.Prog, x api.Expr) string {
	if x.Op == api.ExName {
		for _, head := range p.Ins {
			if head.Name == x.Name {
				return letter(head.Type)
			}
		}
		for _, f := range p.Flows {
			if f.Name == x.Name {
				return letter(f.Type)
			}
		}
	}
	parts := ""
	for _, part := range x.Args {
		parts += toldLetter(p, part)
	}
	for _, one := range strings.Fields(taken(x.Op)) {
		if own, ok := strings.CutPrefix(one, parts+">"); ok {
			return own
		}
	}
	return "?"
}

// told tells what Of answers, in the chapter's words.
func told(p api.Prog, x api.Expr) (api.Type, api.Errno) {
	if !exprs.Check(x) {
		return api.TyNone, api.ErrArg
	}
	for _, ref := range exprs.Refs(x) {
		if _, _, _, ok := names.Find(p, ref.Name); !ok {
			return api.TyNone, api.ErrName
		}
	}
	switch toldLetter(p, x) {
	case "i":
		return api.TyInt, api.OK
	case "b":
		return api.TyBool, api.OK
	}
	return api.TyNone, api.ErrType
}

// toldCheck tells what Check answers, in the chapter's words.
func toldCheck(p api.Prog) api.Errno {
	if e := names.Check(p); e != api.OK {
		return e
	}
	for _, f := range p.Flows {
		if k, e := told(p, f.Body); e != api.OK || k != f.Type || f.Type == api.TyBool && (f.Default < 0 || f.Default > 1) {
			return api.ErrType
		}
	}
	return api.OK
}

// asTold holds Of against the chapter's words.
func asTold(t *testing.T, p api.Prog, x api.Expr) {
	t.Helper()
	if k, e := told(p, x); e != api.OK {
		refuses(t, p, x, e)
	} else {
		has(t, p, x, k)
	}
}

// partsOf tells how many parts an operator has.
func partsOf(op api.Op) int {
	switch op {
	case api.ExInt, api.ExBool, api.ExName:
		return 0
	case api.ExNeg, api.ExNot, api.ExPre:
		return 1
	case api.ExIf:
		return 3
	}
	return 2
}

// chance tells numbers that look like chance and are the same in each run.
func chance(seed uint64) func(below int) int {
	return func(below int) int {
		seed = seed*6364136223846793005 + 1442695040888963407
		return int(seed >> 33 % uint64(below))
	}
}

// grownOf tells one that has a type, at most so deep, of names that are there.
func grownOf(next func(int) int, names map[api.Type][]string, kind api.Type, deep int) api.Expr {
	if deep == 1 || next(5) == 0 {
		if l := names[kind]; len(l) > 0 && next(3) > 0 {
			return v(l[next(len(l))])
		}
		if kind == api.TyInt {
			return n(int64(next(9)))
		}
		return api.Expr{Op: api.ExBool, N: int64(next(2))}
	}
	part := func(kind api.Type) api.Expr { return grownOf(next, names, kind, deep-1) }
	switch next(6) {
	case 0:
		return of(api.ExPre, part(kind))
	case 1:
		return of(api.ExThen, part(kind), part(kind))
	case 2:
		return of(api.ExIf, part(api.TyBool), part(kind), part(kind))
	}
	if kind == api.TyInt {
		if next(4) == 0 {
			return of(api.ExNeg, part(kind))
		}
		return of(api.ExAdd+api.Op(next(5)), part(kind), part(kind))
	}
	switch next(4) {
	case 0:
		return of(api.ExNot, part(kind))
	case 1:
		return of(api.ExAnd+api.Op(next(2)), part(kind), part(kind))
	case 2:
		return of(api.ExLt+api.Op(next(2)), part(api.TyInt), part(api.TyInt))
	}
	either := api.TyInt + api.Type(next(2))
	return of(api.ExEq+api.Op(next(2)), part(either), part(either))
}

// grownAny tells one that may be, at most so deep, of those names, and of whatever types.
func grownAny(next func(int) int, names []string, deep int) api.Expr {
	if deep == 1 || next(4) == 0 {
		return []api.Expr{n(7), yes(), v(names[next(len(names))]), v(names[next(len(names))])}[next(4)]
	}
	op := api.ExNeg + api.Op(next(int(api.ExPre-api.ExNeg)+1))
	x := of(op)
	for range partsOf(op) {
		x.Args = append(x.Args, grownAny(next, names, deep-1))
	}
	return x
}

// grown tells a program that is checked.
func grown(next func(int) int, most int) api.Prog {
	p := api.Prog{Stations: 1 + next(api.MaxStations)}
	all := map[api.Type][]string{}
	for i := range next(most + 1) {
		kind, name := api.TyInt+api.Type(next(2)), fmt.Sprint("i", i)
		p.Ins = append(p.Ins, api.In{Name: name, Type: kind, Station: 1 + next(p.Stations)})
		all[kind] = append(all[kind], name)
	}
	for i := range 1 + next(most) {
		kind, name := api.TyInt+api.Type(next(2)), fmt.Sprint("f", i)
		p.Flows = append(p.Flows, api.Flow{Name: name, Type: kind, Station: 1 + next(p.Stations), Default: int64(next(2))})
		all[kind] = append(all[kind], name)
	}
	for i, f := range p.Flows {
		p.Flows[i].Body = grownOf(next, all, f.Type, 1+next(5))
		if f.Type == api.TyInt {
			p.Flows[i].Default = int64(next(100) - 50)
		}
	}
	return p
}

// namesOf tells the names of all its things.
func namesOf(p api.Prog) []string {
	var l []string
	for _, head := range p.Ins {
		l = append(l, head.Name)
	}
	for _, f := range p.Flows {
		l = append(l, f.Name)
	}
	return l
}

func sameBody(x, y api.Expr) bool {
	return x.Op == y.Op && x.N == y.N && x.Name == y.Name && slices.EqualFunc(x.Args, y.Args, sameBody)
}

func same(p, q api.Prog) bool {
	return p.Stations == q.Stations && slices.Equal(p.Ins, q.Ins) && slices.Equal(p.Outs, q.Outs) &&
		slices.EqualFunc(p.Flows, q.Flows, func(f, g api.Flow) bool {
			return f.Name == g.Name && f.Type == g.Type && f.Station == g.Station && f.Default == g.Default && sameBody(f.Body, g.Body)
		})
}

func copiedBody(x api.Expr) api.Expr {
	x.Args = slices.Clone(x.Args)
	for i, part := range x.Args {
		x.Args[i] = copiedBody(part)
	}
	return x
}

// copied tells the same in memory of its own.
func copied(p api.Prog) api.Prog {
	p.Ins, p.Flows, p.Outs = slices.Clone(p.Ins), slices.Clone(p.Flows), slices.Clone(p.Outs)
	for i, f := range p.Flows {
		p.Flows[i].Body = copiedBody(f.Body)
	}
	return p
}

// P8.1: the chapter's examples.
func TestExamples(t *testing.T) {
	p := exampleProg()
	has(t, p, written(t, "a + 1"), api.TyInt)
	has(t, p, written(t, "a < 1 or b"), api.TyBool)
	has(t, p, written(t, "if b then a else -a"), api.TyInt)
	has(t, p, written(t, "0 -> pre a"), api.TyInt)
	has(t, p, written(t, "b == b"), api.TyBool)
	for _, s := range []string{"a + b", "not a", "a == b", "if a then a else a", "b < b"} {
		refuses(t, p, written(t, s), api.ErrType)
	}
	refuses(t, p, written(t, "c"), api.ErrName)
	refuses(t, p, written(t, "c + true"), api.ErrName)
	refuses(t, p, api.Expr{}, api.ErrArg)
}

// P8.1: numbers, and yes and no, whatever they are, and whatever the program is.
func TestOfNothing(t *testing.T) {
	for _, p := range []api.Prog{{}, exampleProg(), oddProg()} {
		for _, number := range []int64{0, 1, 2, math.MaxInt64} {
			has(t, p, n(number), api.TyInt)
		}
		has(t, p, yes(), api.TyBool)
		has(t, p, api.Expr{Op: api.ExBool}, api.TyBool)
		has(t, p, api.Expr{Op: api.ExBool, Args: []api.Expr{}}, api.TyBool)
		refuses(t, p, n(-1), api.ErrArg)
		refuses(t, p, api.Expr{Op: api.ExBool, N: 2}, api.ErrArg)
		refuses(t, p, api.Expr{Op: api.ExBool, N: -1}, api.ErrArg)
	}
}

// P8.1: each operator's types, as its own sentence has them.
func TestOperators(t *testing.T) {
	int1, bool1, none := v("i"), v("b"), v("n0")
	p := oddProg()
	for _, op := range []api.Op{api.ExAdd, api.ExSub, api.ExMul, api.ExDiv, api.ExMod} {
		has(t, p, of(op, int1, int1), api.TyInt)
	}
	for _, op := range []api.Op{api.ExLt, api.ExLe, api.ExEq, api.ExNe} {
		has(t, p, of(op, int1, int1), api.TyBool)
	}
	for _, op := range []api.Op{api.ExAnd, api.ExOr, api.ExEq, api.ExNe, api.ExThen} {
		has(t, p, of(op, bool1, bool1), api.TyBool)
	}
	has(t, p, of(api.ExThen, int1, int1), api.TyInt)
	has(t, p, of(api.ExNeg, int1), api.TyInt)
	has(t, p, of(api.ExNot, bool1), api.TyBool)
	has(t, p, of(api.ExPre, int1), api.TyInt)
	has(t, p, of(api.ExPre, bool1), api.TyBool)
	has(t, p, of(api.ExIf, bool1, int1, int1), api.TyInt)
	has(t, p, of(api.ExIf, bool1, bool1, bool1), api.TyBool)
	for _, op := range []api.Op{api.ExAdd, api.ExSub, api.ExMul, api.ExDiv, api.ExMod, api.ExLt, api.ExLe} {
		refuses(t, p, of(op, bool1, bool1), api.ErrType)
	}
	for _, op := range []api.Op{api.ExAnd, api.ExOr} {
		refuses(t, p, of(op, int1, int1), api.ErrType)
	}
	for op := api.ExAdd; op <= api.ExThen; op++ {
		if op != api.ExIf {
			refuses(t, p, of(op, int1, bool1), api.ErrType)
			refuses(t, p, of(op, bool1, int1), api.ErrType)
			refuses(t, p, of(op, none, none), api.ErrType)
			refuses(t, p, of(op, v("n3"), v("n3")), api.ErrType)
		}
	}
}

// kinds tells parts of both types, and of none, of all sorts.
func kinds() []api.Expr {
	return []api.Expr{
		n(5), v("i"), v("j"), of(api.ExNeg, v("i")), of(api.ExPre, v("j")), of(api.ExIf, v("b"), n(1), v("j")),
		yes(), v("b"), v("c"), of(api.ExLt, n(1), v("i")), of(api.ExEq, v("b"), v("c")), of(api.ExThen, v("b"), yes()),
		v("n0"), v("n3"), v("n255"), v("m0"), v("m3"), v("m255"), of(api.ExNeg, v("b")), of(api.ExNot, v("i")), of(api.ExEq, n(1), yes()), of(api.ExPre, v("n3")), of(api.ExIf, n(1), n(1), n(1)),
	}
}

// P8.1: each operator, with all types that its parts may have, and all that they may not.
func TestAllTypes(t *testing.T) {
	p, all := oddProg(), kinds()
	for op := api.ExNeg; op <= api.ExPre; op++ {
		count := partsOf(op)
		var fill func(parts []api.Expr)
		fill = func(parts []api.Expr) {
			if len(parts) == count {
				asTold(t, p, of(op, parts...))
				asTold(t, p, of(api.ExPre, of(op, parts...)))
				return
			}
			for _, part := range all {
				fill(append(slices.Clone(parts), part))
			}
		}
		fill(nil)
	}
}

// P8.1: a part that has no type leaves the whole without one, wherever it stands.
func TestNoneWithin(t *testing.T) {
	p := oddProg()
	for _, none := range []api.Expr{v("n0"), v("n3"), v("m255"), of(api.ExAdd, n(1), yes()), of(api.ExIf, yes(), n(1), yes()), of(api.ExThen, yes(), n(1))} {
		for op := api.ExNeg; op <= api.ExPre; op++ {
			for place := range partsOf(op) {
				for _, other := range []api.Expr{n(1), yes()} {
					x := of(op, slices.Repeat([]api.Expr{other}, partsOf(op))...)
					x.Args[place] = none
					refuses(t, p, x, api.ErrType)
					for range api.MaxDeep - 4 {
						x = of(api.ExPre, x)
					}
					refuses(t, p, x, api.ErrType)
				}
			}
		}
	}
}

// P8.1: a name has the type of the first of Ins, else of Flows, that has it.
func TestNames(t *testing.T) {
	p := oddProg()
	has(t, p, v("i"), api.TyInt)
	has(t, p, v("b"), api.TyBool)
	has(t, p, v("j"), api.TyInt)
	has(t, p, v("c"), api.TyBool)
	for _, name := range []string{"n0", "n3", "n255", "m0", "m3", "m255"} {
		refuses(t, p, v(name), api.ErrType)
	}
	for _, name := range []string{"a", "I", "ii", "n", "n1", "m", "none"} {
		refuses(t, p, v(name), api.ErrName)
	}
	p.Flows = append(p.Flows, flow("i", api.TyBool, 0, yes()), flow("n3", api.TyInt, 0, n(1)), flow("j", api.TyBool, 0, yes()))
	p.Ins = append(p.Ins, in("b", api.TyInt))
	has(t, p, v("i"), api.TyInt)
	has(t, p, v("b"), api.TyBool)
	has(t, p, v("j"), api.TyInt)
	refuses(t, p, v("n3"), api.ErrType)
	p.Ins = append(p.Ins, in("j", api.TyBool), in("m3", api.TyInt))
	has(t, p, v("j"), api.TyBool)
	has(t, p, v("m3"), api.TyInt)
	p.Outs = []string{"o"}
	refuses(t, p, v("o"), api.ErrName)
}

// P8.1: of all types that there are, two are of values.
func TestAllTypesOfNames(t *testing.T) {
	for kind := range 256 {
		for _, p := range []api.Prog{{Ins: []api.In{in("x", api.Type(kind))}}, {Flows: []api.Flow{flow("x", api.Type(kind), 0, n(1))}}} {
			for _, x := range []api.Expr{v("x"), of(api.ExPre, v("x")), of(api.ExThen, v("x"), v("x")), of(api.ExIf, yes(), v("x"), v("x"))} {
				if kind == int(api.TyInt) || kind == int(api.TyBool) {
					has(t, p, x, api.Type(kind))
				} else {
					refuses(t, p, x, api.ErrType)
				}
			}
			asTold(t, p, of(api.ExEq, v("x"), v("x")))
			asTold(t, p, of(api.ExNe, v("x"), v("x")))
		}
	}
}

// P8.1, R2: a name that is not there is told ahead of a type that is none, wherever both stand.
func TestNameAheadOfType(t *testing.T) {
	p := exampleProg()
	for _, s := range []string{
		"c", "-c", "not c", "pre c", "pre pre pre c", "c + 1", "1 + c", "c + true", "true + c", "c and 1", "1 and c", "c == c", "c -> c",
		"(a + b) + c", "c + (a + b)", "(not a) == c", "c == (not a)", "if c then 1 else 2", "if true then c else 2", "if true then 1 else c",
		"if a then a else c", "if c then a else b", "if a then c else b", "(a and b) -> pre pre (1 + -(2 * c))", "(1 + -(2 * pre c)) -> a and b",
		"a + b + a + b + (0 -> pre (if b then a else (b -> c)))", "not (not (not a)) or c < 1",
	} {
		refuses(t, p, written(t, s), api.ErrName)
		q := exampleProg()
		q.Ins = append(q.Ins, in("c", api.TyInt))
		asTold(t, q, written(t, s))
		q.Ins[2].Type = 9
		refuses(t, q, written(t, s), api.ErrType)
	}
	deep := v("c")
	for range api.MaxDeep - 2 {
		deep = of(api.ExNot, deep)
	}
	refuses(t, p, of(api.ExAdd, yes(), deep), api.ErrName)
	refuses(t, p, of(api.ExAdd, deep, yes()), api.ErrName)
}

// P8.1, R1, R2: what may not be is told ahead of names and types; none panics.
func TestMayNotBe(t *testing.T) {
	all := []api.Expr{
		{}, {Op: api.ExNone, Name: "c"}, n(-1), {Op: api.ExInt, Name: "c"}, {Op: api.ExBool, N: 2}, {Op: api.ExName}, v("pre"), v("a b"), {Op: api.ExName, Name: "c", N: 1},
		{Op: api.ExInt, Args: []api.Expr{v("c")}}, {Op: api.ExName, Name: "c", Args: []api.Expr{v("c")}}, {Op: api.ExAdd, N: 1, Args: []api.Expr{v("c"), v("c")}}, {Op: api.ExAdd, Name: "c", Args: []api.Expr{v("c"), v("c")}},
		of(api.ExAdd, v("c"), of(api.ExAdd, v("c"))), of(api.ExIf, v("c"), v("c"), api.Expr{}), of(api.ExPre, of(api.ExPre)),
	}
	for op := range 256 {
		for count := range 6 {
			for _, part := range []api.Expr{n(1), yes(), v("a"), v("c")} {
				if x := of(api.Op(op), slices.Repeat([]api.Expr{part}, count)...); !exprs.Check(x) {
					all = append(all, x)
				}
			}
		}
	}
	for _, p := range []api.Prog{{}, exampleProg(), oddProg()} {
		for _, x := range all {
			refuses(t, p, x, api.ErrArg)
			refuses(t, p, of(api.ExAdd, v("c"), x), api.ErrArg)
			refuses(t, p, of(api.ExAdd, x, yes()), api.ErrArg)
			refuses(t, p, of(api.ExPre, of(api.ExIf, v("c"), yes(), x)), api.ErrArg)
		}
	}
}

// wide tells a sum of that many parts, as shallow as it can be.
func wide(count int, part api.Expr) api.Expr {
	if count == 1 {
		return part
	}
	return of(api.ExAdd, wide(count/2, part), wide(count-count/2, part))
}

// P8.1, R1: as great and as deep as it may be, and one more; one that holds itself.
func TestGreatAndDeep(t *testing.T) {
	p := exampleProg()
	has(t, p, wide(api.MaxSize/2, v("a")), api.TyInt)
	has(t, p, of(api.ExNeg, wide(api.MaxSize/2, v("a"))), api.TyInt)
	has(t, p, of(api.ExLt, v("a"), wide(api.MaxSize/2-1, v("a"))), api.TyBool)
	refuses(t, p, of(api.ExNot, wide(api.MaxSize/2, v("a"))), api.ErrType)
	refuses(t, p, of(api.ExNeg, wide(api.MaxSize/2, v("c"))), api.ErrName)
	refuses(t, p, wide(api.MaxSize/2+1, v("a")), api.ErrArg)
	refuses(t, p, wide(api.MaxSize/2+1, v("c")), api.ErrArg)

	for name, kind := range map[string]api.Type{"a": api.TyInt, "b": api.TyBool} {
		x := v(name)
		for range api.MaxDeep - 1 {
			x = of(api.ExPre, x)
			has(t, p, x, kind)
		}
		refuses(t, p, of(api.ExPre, x), api.ErrArg)
		refuses(t, api.Prog{}, x, api.ErrName)
	}
	deep := v("c")
	for range 1 << 16 {
		deep = of(api.ExPre, deep)
	}
	refuses(t, p, deep, api.ErrArg)
	round := of(api.ExAdd, v("c"), v("c"))
	round.Args[0], round.Args[1] = round, round
	refuses(t, p, round, api.ErrArg)
	checks(t, api.Prog{Stations: 1, Flows: []api.Flow{flow("x", api.TyInt, 0, round)}}, api.ErrArg)
	checks(t, api.Prog{Stations: 1, Flows: []api.Flow{flow("x", api.TyInt, 0, deep)}}, api.ErrArg)
}

// P8.1: the program need not be one that may be.
func TestOfInWhatMayNotBe(t *testing.T) {
	has(t, api.Prog{}, written(t, "1 + 2 < 3"), api.TyBool)
	refuses(t, api.Prog{}, written(t, "1 + true"), api.ErrType)
	refuses(t, api.Prog{}, v("a"), api.ErrName)
	has(t, api.Prog{Ins: []api.In{{Name: "a", Type: api.TyBool, Station: -4}}}, v("a"), api.TyBool)

	p := exampleProg()
	p.Stations = -1
	p.Outs = slices.Repeat([]string{"pre"}, 1000)
	p.Flows = []api.Flow{{}, {Name: "x", Type: api.TyBool, Default: math.MinInt64, Body: of(api.ExAdd, v("none"))}, {Name: "a", Type: api.TyBool}}
	has(t, p, written(t, "if x then a else 1"), api.TyInt)
	refuses(t, p, written(t, "if x then a else x"), api.ErrType)
	refuses(t, p, written(t, "if x then a else none"), api.ErrName)

	round := of(api.ExAdd, v("a"), v("a"))
	round.Args[1] = round
	p.Flows[0] = flow("y", api.TyInt, 0, round)
	has(t, p, written(t, "y + a"), api.TyInt)

	many := api.Prog{Ins: slices.Repeat([]api.In{in("i", 7)}, 1000), Flows: slices.Repeat([]api.Flow{flow("f", 7, 0, n(1))}, 1000)}
	many.Ins[999], many.Flows[999] = in("a", api.TyInt), flow("b", api.TyBool, 0, n(1))
	has(t, many, written(t, "if b then a else 2"), api.TyInt)
	refuses(t, many, written(t, "if b then i else 2"), api.ErrType)
	refuses(t, many, written(t, "if b then f else 2"), api.ErrType)
	refuses(t, many, written(t, "if b then g else f"), api.ErrName)
}

// P8.2: programs whose flows are of their types, and programs whose flows are not.
func TestCheck(t *testing.T) {
	const ins = "in a: int at 1; in b: bool at 2; "
	for s, want := range map[string]api.Errno{
		"": api.OK,
		"flow x: int at 1 default 5 = 0 -> pre x + 1;":                                                     api.OK,
		"flow x: bool at 1 default 1 = not y; flow y: bool at 1 default 0 = x;":                            api.OK,
		"flow x: int at 1 default 0 = y; flow y: int at 1 default 0 = if b then a else -x;":                api.OK,
		"flow x: bool at 1 default true = a < 1 or b; out x; out a;":                                       api.OK,
		"flow x: bool at 1 default false = x;":                                                             api.OK,
		"flow x: int at 1 default 0 = true;":                                                               api.ErrType,
		"flow x: bool at 1 default 0 = 1;":                                                                 api.ErrType,
		"flow x: int at 1 default 0 = b;":                                                                  api.ErrType,
		"flow x: bool at 1 default 0 = a;":                                                                 api.ErrType,
		"flow x: int at 1 default 0 = a < 1;":                                                              api.ErrType,
		"flow x: bool at 1 default 0 = a + 1;":                                                             api.ErrType,
		"flow x: int at 1 default 0 = a + b;":                                                              api.ErrType,
		"flow x: bool at 1 default 0 = a + b;":                                                             api.ErrType,
		"flow x: int at 1 default 0 = if a then 1 else 2;":                                                 api.ErrType,
		"flow x: bool at 1 default 0 = if b then true else 2;":                                             api.ErrType,
		"flow x: bool at 1 default 1 = not y; flow y: int at 1 default 0 = 1;":                             api.ErrType,
		"flow x: int at 1 default 0 = y; flow y: bool at 1 default 0 = b; out y;":                          api.ErrType,
		"flow x: int at 1 default 0 = -x; flow y: bool at 1 default 0 = pre y or x;":                       api.ErrType,
		"flow x: int at 1 default 0 = 0 -> pre (0 -> pre (a + (if b then x else (1 == a))));":              api.ErrType,
		"flow x: int at 1 default 0 = 1; flow y: int at 1 default 0 = y; flow z: bool at 1 default 0 = y;": api.ErrType,
	} {
		checks(t, read(t, ins+s), want)
	}
}

// P8.2: a TyBool flow's Default is 0 or 1, a TyInt flow's whatever it may be.
func TestDefaults(t *testing.T) {
	for value, want := range map[int64]api.Errno{0: api.OK, 1: api.OK, 2: api.ErrType, -1: api.ErrType, 3: api.ErrType, 256: api.ErrType, 1 << 32: api.ErrType, 1<<32 + 1: api.ErrType, math.MaxInt64: api.ErrType, math.MinInt64 + 1: api.ErrType, math.MinInt64: api.ErrArg} {
		for _, body := range []api.Expr{yes(), v("x"), of(api.ExNot, v("b"))} {
			p := exampleProg()
			p.Flows = []api.Flow{flow("x", api.TyBool, value, body)}
			checks(t, p, want)
			p.Flows = append(p.Flows, flow("y", api.TyBool, 1, v("x")))
			checks(t, p, want)
			p.Flows = []api.Flow{flow("y", api.TyBool, 1, yes()), flow("z", api.TyInt, 2, n(3)), p.Flows[0]}
			checks(t, p, want)
		}
		p := exampleProg()
		p.Flows = []api.Flow{flow("x", api.TyInt, value, n(1))}
		if want == api.ErrType {
			want = api.OK
		}
		checks(t, p, want)
	}
	for s, want := range map[string]api.Errno{"int at 1 default 2 = 1;": api.OK, "int at 1 default -1 = 1;": api.OK, "int at 1 default true = 1;": api.OK, "bool at 1 default 2 = true;": api.ErrType, "bool at 1 default -1 = true;": api.ErrType, "bool at 1 default 1 = true;": api.OK, "bool at 1 default false = true;": api.OK} {
		checks(t, read(t, "flow x: "+s), want)
	}
}

// fullest tells a program with as many Ins and Flows as there may be, each flow of the one ahead of it.
func fullest() api.Prog {
	p := api.Prog{Stations: 1}
	for i := range api.MaxIns {
		p.Ins = append(p.Ins, in(fmt.Sprint("i", i), api.TyInt+api.Type(i%2)))
	}
	for i := range api.MaxFlows {
		if i%2 == 0 {
			p.Flows = append(p.Flows, flow(fmt.Sprint("f", i), api.TyInt, int64(i), of(api.ExAdd, n(1), v(fmt.Sprint("i", i%api.MaxIns)))))
		} else {
			p.Flows = append(p.Flows, flow(fmt.Sprint("f", i), api.TyBool, 1, of(api.ExEq, n(1), v(fmt.Sprint("f", i-1)))))
		}
	}
	return p
}

// P8.2: what is wrong is told of each one of many Flows.
func TestCheckOfEachFlow(t *testing.T) {
	checks(t, fullest(), api.OK)
	for i := range api.MaxFlows {
		for _, body := range []api.Expr{n(1), yes(), of(api.ExAdd, n(1), yes()), v("f0"), v("i1"), of(api.ExNot, v("i0"))} {
			p := fullest()
			p.Flows[i].Body = body
			checks(t, p, toldCheck(p))
			if k, e := told(p, body); e == api.OK && k == p.Flows[i].Type {
				checks(t, p, api.OK)
			} else {
				checks(t, p, api.ErrType)
			}
		}
		p := fullest()
		p.Flows[i].Type = api.TyInt + api.TyBool - p.Flows[i].Type
		checks(t, p, api.ErrType)
		p = fullest()
		p.Flows[i].Default = 2
		checks(t, p, toldCheck(p))
	}
}

// P8.2: what names.Check answers comes first.
func TestCheckNamesFirst(t *testing.T) {
	const wrong = "flow w: int at 1 default 0 = true; flow w1: bool at 1 default 2 = 1 + true; "
	for _, rest := range []string{
		"flow x: int at 1 default 0 = y;", "flow x: int at 1 default 0 = true + y;", "flow x: bool at 1 default 2 = y;", "in a: int at 1; in a: bool at 1;",
		"in a: int at 1; flow a: bool at 1 default 0 = true;", "flow x: int at 1 default 0 = 1; flow x: int at 1 default 0 = 1;", "in a: int at 1; out o;", "in a: int at 1; in d: int at 1; out d; out d;", "flow x: int at 1 default 0 = 1; in a: int at 1; out x; out x;",
	} {
		checks(t, read(t, rest), api.ErrName)
		checks(t, read(t, wrong+rest), api.ErrName)
		checks(t, read(t, rest+wrong), api.ErrName)
		p := read(t, wrong+rest)
		p.Stations = 0
		checks(t, p, api.ErrArg)
	}
	checks(t, read(t, wrong), api.ErrType)
	for what, spoil := range map[string]func(p *api.Prog){
		"no stations":      func(p *api.Prog) { p.Stations = 0 },
		"too many":         func(p *api.Prog) { p.Stations = api.MaxStations + 1 },
		"a flow's type":    func(p *api.Prog) { p.Flows[0].Type = api.TyNone },
		"a type above":     func(p *api.Prog) { p.Flows[1].Type = 3 },
		"an In's type":     func(p *api.Prog) { p.Ins[0].Type = 3 },
		"a flow's station": func(p *api.Prog) { p.Flows[1].Station = 3 },
		"a Body":           func(p *api.Prog) { p.Flows[1].Body = api.Expr{} },
		"a Body's part":    func(p *api.Prog) { p.Flows[1].Body = of(api.ExNot, of(api.ExNot)) },
		"a Default":        func(p *api.Prog) { p.Flows[1].Default = math.MinInt64 },
		"an out":           func(p *api.Prog) { p.Outs = []string{"pre"} },
	} {
		for _, rest := range []string{"", wrong, "flow x: int at 1 default 0 = y;", wrong + "flow x: int at 1 default 0 = y;"} {
			p := read(t, "in a: int at 1; flow g: int at 1 default 0 = 1; flow h: bool at 1 default 1 = true;"+rest)
			spoil(&p)
			if e := Check(p); e != api.ErrArg {
				t.Errorf("%s: Check(%s) = %d", what, shown(p), e)
			}
		}
	}
	checks(t, api.Prog{}, api.ErrArg)
}

// P8.2, R4: no Flows; a list that is empty and one that is nil mean the same.
func TestNothing(t *testing.T) {
	for _, p := range []api.Prog{
		{Stations: 1}, {Stations: 8, Ins: []api.In{}, Flows: []api.Flow{}, Outs: []string{}}, {Stations: 1, Flows: make([]api.Flow, 0, 3)},
		exampleProg(), {Stations: 1, Ins: exampleProg().Ins, Outs: []string{"b", "a"}},
	} {
		checks(t, p, api.OK)
		refuses(t, p, v("none"), api.ErrName)
	}
}

// P8.1: many that are worked out, held against the chapter's words.
func TestMany(t *testing.T) {
	next := chance(81)
	count := map[api.Errno]int{}
	p := oddProg()
	all := []string{"i", "i", "b", "b", "j", "c", "i", "b", "n0", "m3"}
	for range 30000 {
		x := grownAny(next, all, 1+next(4))
		if next(9) == 0 {
			x = grownAny(next, append(all, "none"), 4)
		}
		asTold(t, p, x)
		_, e := Of(p, x)
		count[e]++
	}
	for range 5000 {
		kind := api.TyInt + api.Type(next(2))
		x := grownOf(next, map[api.Type][]string{api.TyInt: {"i", "j"}, api.TyBool: {"b", "c"}}, kind, 1+next(6))
		if exprs.Check(x) {
			has(t, p, x, kind)
			count[api.OK]++
		}
	}
	if count[api.OK] < 3000 || count[api.ErrName] < 300 || count[api.ErrType] < 3000 {
		t.Errorf("%v", count)
	}
}

// P8.2: many programs, held against the chapter's words.
func TestManyPrograms(t *testing.T) {
	next := chance(82)
	count := map[api.Errno]int{}
	for range 3000 {
		p := grown(next, 1+next(10))
		checks(t, p, api.OK)
		place := next(len(p.Flows))
		switch next(4) {
		case 0:
			p.Flows[place].Body = grownAny(next, append(namesOf(p), "none"), 3)
		case 1:
			p.Flows[place].Type = api.TyInt + api.TyBool - p.Flows[place].Type
		case 2:
			p.Flows[place].Default = int64(next(5) - 2)
		case 3:
			p.Flows[place].Body = grownAny(next, namesOf(p), 4)
		}
		checks(t, p, toldCheck(p))
		count[Check(p)]++
	}
	if count[api.OK] < 300 || count[api.ErrName] < 50 || count[api.ErrType] < 300 {
		t.Errorf("%v", count)
	}
}

// places tells each part of it (itself too), to be exchanged.
func places(x *api.Expr) []*api.Expr {
	l := []*api.Expr{x}
	for i := range x.Args {
		l = append(l, places(&x.Args[i])...)
	}
	return l
}

// P8.3: a part that is exchanged for another one of its type leaves the type as it is; for one of the other type, or of none, it is as the words say.
func TestExchange(t *testing.T) {
	next := chance(83)
	p := oddProg()
	all := map[api.Type][]string{api.TyInt: {"i", "j"}, api.TyBool: {"b", "c"}}
	others := map[api.Errno]int{}
	for range 1500 {
		kind := api.TyInt + api.Type(next(2))
		x := grownOf(next, all, kind, 5)
		if !exprs.Check(x) {
			continue
		}
		for i, part := range places(&x) {
			own, e := Of(p, *part)
			if e != api.OK {
				t.Fatalf("a part of %s: %d", shown(x), e)
			}
			y := copiedBody(x)
			*places(&y)[i] = grownOf(next, all, own, 3)
			if exprs.Check(y) {
				has(t, p, y, kind)
			}
			y = copiedBody(x)
			*places(&y)[i] = grownOf(next, all, api.TyInt+api.TyBool-own, 2)
			if exprs.Check(y) {
				asTold(t, p, y)
				_, e := Of(p, y)
				others[e]++
			}
			y = copiedBody(x)
			*places(&y)[i] = v("n3")
			refuses(t, p, y, api.ErrType)
		}
	}
	if others[api.OK] == 0 || others[api.ErrType] < 1000 {
		t.Errorf("%v", others)
	}
}

// P8.3: in words: what one part is exchanged for.
func TestExchangeInWords(t *testing.T) {
	p := exampleProg()
	for s, kind := range map[string]api.Type{
		"if PART then a else 1": api.TyInt, "a + (if PART then a else 1)": api.TyInt, "PART -> not b": api.TyBool, "b == PART": api.TyBool, "pre PART": api.TyBool, "not pre (b -> PART)": api.TyBool,
	} {
		for _, part := range []string{"b", "true", "(a < 1)", "(b or a == 1)", "(pre b)", "(if b then b else false)"} {
			has(t, p, written(t, strings.ReplaceAll(s, "PART", part)), kind)
		}
		if s == "pre PART" { // it alone takes either type, and has that one
			has(t, p, written(t, "pre a"), api.TyInt)
			continue
		}
		for _, part := range []string{"a", "1", "(a + 1)", "(pre a)", "(if b then a else 1)", "(a + b)"} {
			refuses(t, p, written(t, strings.ReplaceAll(s, "PART", part)), api.ErrType)
		}
	}
}

// P8.3: in a program, a Body exchanged for one of its type leaves it checked; for one of the other type not.
func TestExchangeBodies(t *testing.T) {
	next := chance(84)
	for range 300 {
		p := grown(next, 6)
		all := map[api.Type][]string{}
		for _, name := range namesOf(p) {
			_, kind, _, _ := names.Find(p, name)
			all[kind] = append(all[kind], name)
		}
		for i, f := range p.Flows {
			q := copied(p)
			q.Flows[i].Body = grownOf(next, all, f.Type, 4)
			checks(t, q, api.OK)
			q.Flows[i].Body = grownOf(next, all, api.TyInt+api.TyBool-f.Type, 4)
			checks(t, q, api.ErrType)
		}
	}
}

// bodyWithRoom tells the same in lists with spare room that is filled.
func bodyWithRoom(x api.Expr) api.Expr {
	l := make([]api.Expr, 0, len(x.Args)+1)
	for _, part := range x.Args {
		l = append(l, bodyWithRoom(part))
	}
	x.Args = append(l, v("spare"))[:len(l)]
	return x
}

// roomStays tells whether its spare room is as it was.
func roomStays(x api.Expr) bool {
	return sameBody(x.Args[:len(x.Args)+1][len(x.Args)], v("spare")) && !slices.ContainsFunc(x.Args, func(part api.Expr) bool { return !roomStays(part) })
}

// withRoom tells the same in lists with spare room that is filled, and whether it is still so.
func withRoom(p api.Prog) (api.Prog, func() bool) {
	allIns := append(slices.Clone(p.Ins), in("spare", api.TyInt))
	allFlows := append(slices.Clone(p.Flows), flow("spare", api.TyInt, 7, v("spare")))
	for i, f := range allFlows {
		allFlows[i].Body = bodyWithRoom(f.Body)
	}
	allOuts := append(slices.Clone(p.Outs), "spare")
	mine := api.Prog{Stations: p.Stations, Ins: allIns[:len(p.Ins)], Flows: allFlows[:len(p.Flows)], Outs: allOuts[:len(p.Outs)]}
	before := copied(api.Prog{Stations: p.Stations, Ins: allIns, Flows: allFlows, Outs: allOuts})
	return mine, func() bool {
		for _, f := range allFlows {
			if !roomStays(f.Body) {
				return false
			}
		}
		return same(api.Prog{Stations: mine.Stations, Ins: allIns, Flows: allFlows, Outs: allOuts}, before) && same(mine, p)
	}
}

// R4: what is handed in stays as it was, its spare room too, whatever is answered; and spare room counts for nothing.
func TestArgumentsStay(t *testing.T) {
	next := chance(85)
	all := []api.Prog{{}, exampleProg(), oddProg(), fullest(), read(t, "flow x: int at 1 default 0 = true;"), read(t, "flow x: int at 1 default 0 = y;")}
	for range 200 {
		all = append(all, grown(next, 6))
	}
	for _, p := range all {
		mine, stays := withRoom(p)
		if Check(mine) != Check(p) {
			t.Errorf("spare room of %s counts", shown(p))
		}
		for range 5 {
			x := bodyWithRoom(grownAny(next, append(namesOf(p), "spare"), 4))
			before := copiedBody(x)
			asTold(t, mine, x)
			if !sameBody(x, before) || !roomStays(x) {
				t.Errorf("%s is changed", shown(before))
			}
		}
		refuses(t, mine, v("spare"), api.ErrName)
		refuses(t, mine, bodyWithRoom(of(api.ExAdd, v("spare"))), api.ErrArg)
		if !stays() {
			t.Errorf("%s is changed", shown(p))
		}
	}
}

// R4: what is handed in is not kept: when its names' bytes change, it is another program.
func TestNothingKept(t *testing.T) {
	name := []byte("abc")
	shared := unsafe.String(&name[0], len(name))
	p := api.Prog{Stations: 1, Ins: []api.In{in(shared, api.TyInt), in("xyz", api.TyBool)}, Flows: []api.Flow{flow("x", api.TyInt, 0, v("abc"))}}
	checks(t, p, api.OK)
	has(t, p, v("abc"), api.TyInt)
	copy(name, "uvw")
	checks(t, p, api.ErrName)
	refuses(t, p, v("abc"), api.ErrName)
	has(t, p, v("uvw"), api.TyInt)
	copy(name, "xyz")
	has(t, p, v("xyz"), api.TyInt)
	p.Ins[0].Type = api.TyBool
	has(t, p, v("xyz"), api.TyBool)
}

// R5: what is answered hangs on nothing but what is handed in, however many ask at once.
func TestAtOnce(t *testing.T) {
	next := chance(86)
	var all []api.Prog
	for range 60 {
		p := grown(next, 6)
		p.Flows[0].Body = grownAny(next, append(namesOf(p), "none"), 3)
		all = append(all, p)
	}
	var group sync.WaitGroup
	for range 8 {
		group.Go(func() {
			for _, p := range all {
				checks(t, p, toldCheck(p))
				asTold(t, p, p.Flows[0].Body)
				asTold(t, exampleProg(), p.Flows[0].Body)
				has(t, exampleProg(), v("a"), api.TyInt)
			}
		})
	}
	group.Wait()
}
