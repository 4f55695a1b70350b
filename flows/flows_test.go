package flows

import (
	"fmt"
	"math"
	"slices"
	"strings"
	"testing"

	"belfry/api"
	"belfry/progs"
)

const (
	least    = math.MinInt64
	greatest = math.MaxInt64
)

// read tells a program of three stations; its Ins are `a at 1`, its flows `x at 2 default 9 = a`; of `bool` things the type stands behind the name: `b: bool at 1`.
func read(t *testing.T, lines ...string) api.Prog {
	t.Helper()
	text := "stations 3;"
	for _, line := range lines {
		head, body, isFlow := strings.Cut(line, " = ")
		if !strings.Contains(head, " at ") {
			head += " at 1"
		}
		if !strings.Contains(head, ": ") {
			head = strings.Replace(head, " at ", ": int at ", 1)
		}
		if !isFlow {
			text += " in " + head + ";"
			continue
		}
		if !strings.Contains(head, " default ") {
			head += " default 0"
		}
		text += " flow " + head + " = " + body + ";"
	}
	p, at, e := progs.Parse(text)
	if e != api.OK {
		t.Fatalf("%q: %d at %d", text, e, at)
	}
	return p
}

// row and rows tell what comes from without; column tells a row for each number.
func row(l ...int64) []int64      { return l }
func rows(l ...[]int64) [][]int64 { return l }
func column(l ...int64) [][]int64 {
	var all [][]int64
	for _, number := range l {
		all = append(all, row(number))
	}
	return all
}

// empty tells so many rows without numbers.
func empty(count int) [][]int64 { return make([][]int64, count) }

func sameRows(l, m [][]int64) bool { return slices.EqualFunc(l, m, slices.Equal) }

func copiedRows(l [][]int64) [][]int64 {
	var all [][]int64
	for _, r := range l {
		all = append(all, slices.Clone(r))
	}
	return all
}

// shown tells something, but not all of it.
func shown(x any) string { return fmt.Sprintf("%.300s", fmt.Sprint(x)) }

// text tells a program as it is written, or as it is, if it may not be.
func text(p api.Prog) string {
	if s, e := progs.Text(p); e == api.OK {
		return fmt.Sprintf("%.1500s", s)
	}
	return shown(p)
}

// nowhere tells so many instants below 0 as there are names.
func nowhere(p api.Prog) []int {
	return slices.Repeat([]int{-1}, len(p.Ins)+len(p.Flows))
}

// means asks Run, and With with no instant told, for what the flows are.
func means(t *testing.T, p api.Prog, ins [][]int64, want ...[]int64) {
	t.Helper()
	if l, e := Run(p, ins); !sameRows(l, want) || e != api.OK {
		t.Errorf("Run(%s, %s) = %s, %d, want %s", text(p), shown(ins), shown(l), e, shown(want))
	}
	meansWith(t, p, ins, nowhere(p), want...)
}

func meansWith(t *testing.T, p api.Prog, ins [][]int64, from []int, want ...[]int64) {
	t.Helper()
	if l, e := With(p, ins, from); !sameRows(l, want) || e != api.OK {
		t.Errorf("With(%s, %s, %v) = %s, %d, want %s", text(p), shown(ins), from, shown(l), e, shown(want))
	}
}

// refuses asks Run, and With with no instant told, for an error, and nothing besides.
func refuses(t *testing.T, p api.Prog, ins [][]int64, want api.Errno) {
	t.Helper()
	if l, e := Run(p, ins); len(l) > 0 || e != want {
		t.Errorf("Run(%s, %s) = %s, %d, want the error %d", text(p), shown(ins), shown(l), e, want)
	}
	refusesWith(t, p, ins, nowhere(p), want)
}

func refusesWith(t *testing.T, p api.Prog, ins [][]int64, from []int, want api.Errno) {
	t.Helper()
	if l, e := With(p, ins, from); len(l) > 0 || e != want {
		t.Errorf("With(%s, %s, %s) = %s, %d, want the error %d", text(p), shown(ins), shown(from), shown(l), e, want)
	}
}

// P12.1, P12.2: the chapter's examples.
func TestExamples(t *testing.T) {
	means(t, read(t, "n = 0 -> pre n + 1"), empty(3), row(0), row(1), row(2))
	means(t, read(t, "a", "s = a + (0 -> pre s)"), column(5, 6, 7), row(5), row(11), row(18))
	meansWith(t, read(t, "a at 1", "x at 2 default 9 = a", "y at 1 = x"), column(5, 6), []int{1, 1, -1}, row(5, 5), row(0, 9))
	refuses(t, read(t, "x = x"), nil, api.ErrLoop)
	refuses(t, read(t, "x = pre x"), nil, api.ErrStart)
	refuses(t, read(t, "x = not 1"), nil, api.ErrType)
	refuses(t, read(t, "a"), rows(nil), api.ErrArg)
}

// fault is one of the order that P12.1 tells: what it does to a program and to its rows.
type fault struct {
	e     api.Errno
	spoil func(p *api.Prog, ins *[][]int64)
}

// spoilProg tells a fault by a flow more.
func spoilProg(e api.Errno, f api.Flow) fault {
	return fault{e, func(p *api.Prog, _ *[][]int64) { p.Flows = append(slices.Clone(p.Flows), f) }}
}

func name(s string) api.Expr { return api.Expr{Op: api.ExName, Name: s} }

func of(o api.Op, parts ...api.Expr) api.Expr { return api.Expr{Op: o, Args: parts} }

// faults tells them in order; all can be in one program and its rows at the same time.
func faults() []fault {
	flow := func(s string, body api.Expr) api.Flow {
		return api.Flow{Name: s, Type: api.TyInt, Station: 1, Body: body}
	}
	return []fault{
		{api.ErrArg, func(p *api.Prog, _ *[][]int64) { p.Stations = 0 }},
		spoilProg(api.ErrName, flow("asks", name("none"))),
		spoilProg(api.ErrType, flow("wrong", api.Expr{Op: api.ExBool})),
		spoilProg(api.ErrLoop, flow("round", name("round"))),
		spoilProg(api.ErrStart, flow("late", of(api.ExPre, name("late")))),
		{api.ErrLimit, func(_ *api.Prog, ins *[][]int64) {
			for len(*ins) <= api.MaxRounds {
				*ins = append(*ins, row(0, 0))
			}
		}},
		{api.ErrArg, func(_ *api.Prog, ins *[][]int64) { (*ins)[0] = row(0) }},
		{api.ErrType, func(_ *api.Prog, ins *[][]int64) { (*ins)[1] = row(2, 0) }},
	}
}

// P12.1, R2: each fault alone; each two, the first one tells; all from one on.
func TestOrderOfErrors(t *testing.T) {
	sound := func() (api.Prog, [][]int64) {
		return read(t, "b: bool", "a", "x = if b then a else 0"), rows(row(0, 1), row(1, 2), row(1, 3))
	}
	p, ins := sound()
	means(t, p, ins, row(0), row(2), row(3))
	all := faults()
	for i, first := range all {
		p, ins := sound()
		first.spoil(&p, &ins)
		refuses(t, p, ins, first.e)
		for _, second := range all[i+1:] {
			p, ins := sound()
			second.spoil(&p, &ins)
			first.spoil(&p, &ins)
			refuses(t, p, ins, first.e)
		}
		p, ins = sound()
		for _, each := range all[i:] {
			each.spoil(&p, &ins)
		}
		refuses(t, p, ins, first.e)
	}
}

// P12.1, R2: the same faults where the first one of a program stands behind the second one.
func TestOrderIsNotThatOfFlows(t *testing.T) {
	bodies := []string{"x = none", "x = true", "x = x", "x = pre x"}
	errors := []api.Errno{api.ErrName, api.ErrType, api.ErrLoop, api.ErrStart}
	for i, first := range bodies {
		refuses(t, read(t, first), nil, errors[i])
		refuses(t, read(t, first), empty(api.MaxRounds+1), errors[i])
		refuses(t, read(t, first), rows(row(1)), errors[i])
		for _, second := range bodies[i+1:] {
			other := strings.ReplaceAll(second, "x", "y")
			refuses(t, read(t, first, other), nil, errors[i])
			refuses(t, read(t, other, first), nil, errors[i])
		}
	}
	refuses(t, read(t, "x = true + pre x"), nil, api.ErrType)
	refuses(t, read(t, "x = x + pre x"), nil, api.ErrLoop)
	refuses(t, read(t, "b: bool at 1 default 2 = b"), nil, api.ErrType)
	refuses(t, read(t, "x = 0 -> pre pre x"), nil, api.ErrStart)
	refuses(t, read(t, "x = y", "y = z + 1", "z = 0 -> x"), nil, api.ErrLoop)
	twice := read(t, "x = 1", "y = 2")
	twice.Outs = []string{"x", "x"}
	refuses(t, twice, nil, api.ErrName)
	refuses(t, read(t, "x = 1", "x = x"), nil, api.ErrName)
	refuses(t, api.Prog{}, nil, api.ErrArg)
}

// P12.1: as many rows as there may be, and one more; no rows, nil or empty.
func TestHowManyRows(t *testing.T) {
	p := read(t, "n = 0 -> pre n + 1")
	for _, count := range []int{0, 1, 2, 31, 32, 33, 100, api.MaxRounds - 1, api.MaxRounds} {
		l, e := Run(p, empty(count))
		if len(l) != count || e != api.OK {
			t.Errorf("%d rows: %d, %d", count, len(l), e)
			continue
		}
		for i, r := range l {
			if len(r) != 1 || r[0] != int64(i) {
				t.Fatalf("%d rows: %v at %d", count, r, i)
			}
		}
	}
	for _, count := range []int{api.MaxRounds + 1, 2 * api.MaxRounds, 1 << 20} {
		refuses(t, p, empty(count), api.ErrLimit)
	}
	means(t, p, nil)
	means(t, p, rows())
	means(t, read(t, "a"), nil)
}

// P12.1: without flows there are rows of nothing; without Ins too.
func TestNoFlows(t *testing.T) {
	means(t, read(t), empty(2), nil, nil)
	means(t, read(t), nil)
	means(t, read(t, "a", "b: bool"), rows(row(5, 1), row(least, 0)), nil, nil)
	means(t, read(t, "x = 3"), rows(nil, row(), nil), row(3), row(3), row(3))
}

// P12.1: a row with a number too few or too many, none, and many more, at each place; also where its numbers may not be.
func TestRowsOfWrongLength(t *testing.T) {
	p := read(t, "a", "b: bool", "x = if b then a else -a")
	good := rows(row(1, 1), row(2, 0), row(3, 1), row(4, 0), row(5, 1))
	means(t, p, good, row(1), row(-2), row(3), row(-4), row(5))
	for place := range good {
		for _, wrong := range rows(nil, row(), row(1), row(1, 1, 1), row(1, 2, 1), row(7, 7, 7, 7), make([]int64, 1<<16)) {
			ins := copiedRows(good)
			ins[place] = wrong
			refuses(t, p, ins, api.ErrArg)
			ins[(place+1)%len(ins)][1] = 2
			refuses(t, p, ins, api.ErrArg)
		}
	}
	refuses(t, read(t, "x = 1"), rows(nil, row(0), nil), api.ErrArg)
	long := make([]int64, api.MaxIns)
	refuses(t, p, rows(long[:1]), api.ErrArg)
}

// P12.1: yes is 1 and no is 0, in each row and each place; numbers are any.
func TestYesAndNoFromWithout(t *testing.T) {
	p := read(t, "b: bool", "a", "c: bool at 2", "x: bool = b and c")
	good := rows(row(1, 9, 1), row(0, -9, 1), row(1, greatest, 0), row(0, least, 0))
	means(t, p, good, row(1), row(0), row(0), row(0))
	for place := range good {
		for _, in := range []int{0, 2} {
			for _, wrong := range []int64{2, -1, 3, -2, 256, 257, 1 << 32, 1<<32 + 1, greatest, least} {
				ins := copiedRows(good)
				ins[place][in] = wrong
				refuses(t, p, ins, api.ErrType)
				refusesWith(t, p, ins, slices.Repeat([]int{0}, 4), api.ErrType)
			}
		}
	}
	refuses(t, read(t, "b: bool"), column(1, 0, 2), api.ErrType)
	means(t, read(t, "b: bool"), column(1, 0), nil, nil)
}

// P12.1: each operator in a body.
func TestEachOperator(t *testing.T) {
	ins := rows(row(7, 2, 1, 0), row(-7, 2, 0, 0), row(5, 0, 1, 1), row(least, -1, 0, 1), row(3, 3, 1, 0))
	for body, want := range map[string][]int64{
		"12": {12, 12, 12, 12, 12}, "9223372036854775807": {greatest, greatest, greatest, greatest, greatest},
		"x": {7, -7, 5, least, 3}, "-x": {-7, 7, -5, least, -3},
		"x + y": {9, -5, 5, greatest, 6}, "x - y": {5, -9, 5, least + 1, 0}, "x * y": {14, -14, 0, least, 9},
		"x / y": {3, -3, 0, least, 1}, "x % y": {1, -1, 0, 0, 0},
		"if b then x else y": {7, 2, 5, -1, 3}, "if c then x else y": {2, 2, 5, least, 3},
		"x -> y": {7, 2, 0, -1, 3}, "y -> pre x": {2, 7, -7, 5, least},
	} {
		means(t, read(t, "x", "y", "b: bool", "c: bool", "f = "+body), ins, column(want...)...)
	}
	for body, want := range map[string][]int64{
		"true": {1, 1, 1, 1, 1}, "false": {0, 0, 0, 0, 0}, "b": {1, 0, 1, 0, 1},
		"x == y": {0, 0, 0, 0, 1}, "x != y": {1, 1, 1, 1, 0}, "x < y": {0, 1, 0, 1, 0}, "x <= y": {0, 1, 0, 1, 1},
		"b == c": {0, 1, 1, 0, 0}, "b != c": {1, 0, 0, 1, 1},
		"not b": {0, 1, 0, 1, 0}, "b and c": {0, 0, 1, 0, 0}, "b or c": {1, 0, 1, 1, 1},
		"if b then c else b": {0, 0, 1, 0, 0}, "b -> c": {1, 0, 1, 1, 0}, "c -> pre b": {0, 1, 0, 1, 0},
	} {
		means(t, read(t, "x", "y", "b: bool", "c: bool", "f: bool = "+body), ins, column(want...)...)
	}
}

// P12.1: beginnings, and ExPre behind them, one in another, of an In and of a flow that is the same.
func TestBeginnings(t *testing.T) {
	ins := column(10, 20, 30, 40, 50)
	for body, want := range map[string][]int64{
		"0 -> pre N":                             {0, 10, 20, 30, 40},
		"0 -> pre (1 -> pre N)":                  {0, 1, 10, 20, 30},
		"0 -> pre (1 -> pre (2 -> pre N))":       {0, 1, 2, 10, 20},
		"1 -> 2 -> N":                            {1, 20, 30, 40, 50},
		"(1 -> 2) -> N":                          {1, 20, 30, 40, 50},
		"1 -> 2 -> pre N":                        {1, 10, 20, 30, 40},
		"1 -> pre (N -> 2)":                      {1, 10, 2, 2, 2},
		"N -> pre N":                             {10, 10, 20, 30, 40},
		"N -> pre N + N":                         {10, 30, 50, 70, 90},
		"N + (N -> pre N)":                       {20, 30, 50, 70, 90},
		"0 -> pre (N + (100 -> pre N))":          {0, 110, 30, 50, 70},
		"0 -> pre (N -> pre N)":                  {0, 10, 10, 20, 30},
		"7 -> pre 8":                             {7, 8, 8, 8, 8},
		"0 -> pre 1 -> N":                        {0, 20, 30, 40, 50},
		"if N < 30 then 0 -> pre N else -N":      {0, 10, -30, -40, -50},
		"N - (0 -> pre (0 -> pre (0 -> pre N)))": {10, 20, 30, 30, 30},
	} {
		for _, which := range []string{"a", "g"} {
			p := read(t, "a", "f = "+strings.ReplaceAll(body, "N", which), "g = a")
			var both [][]int64
			for i, number := range want {
				both = append(both, row(number, ins[i][0]))
			}
			means(t, p, ins, both...)
		}
	}
	for _, body := range []string{"pre a", "pre a -> a", "0 -> pre pre a", "0 -> pre (pre pre a -> a)", "pre (0 -> pre a)", "if true then 0 else pre a"} {
		refuses(t, read(t, "a", "f = "+body), ins, api.ErrStart)
	}
}

// P12.1: as many ExPre as fit into a body, each behind a beginning.
func TestLongAgo(t *testing.T) {
	x := name("a")
	const ago = (api.MaxDeep - 1) / 2
	for i := range ago {
		x = of(api.ExThen, api.Expr{Op: api.ExInt, N: int64(ago - i)}, of(api.ExPre, x))
	}
	p := read(t, "a", "f = 0")
	p.Flows[0].Body = x
	var ins, want [][]int64
	for i := range 40 {
		ins = append(ins, row(int64(1000+i)))
		if i < ago {
			want = append(want, row(int64(i+1)))
		} else {
			want = append(want, row(int64(1000+i-ago)))
		}
	}
	means(t, p, ins, want...)
}

// P12.1: flows that hang on how they and others were.
func TestStates(t *testing.T) {
	means(t, read(t, "f = 0 -> pre g", "g = 1 -> pre (f + g)"), empty(8), row(0, 1), row(1, 1), row(1, 2), row(2, 3), row(3, 5), row(5, 8), row(8, 13), row(13, 21))
	means(t, read(t, "b: bool", "on: bool = b != (false -> pre on)"), column(1, 0, 1, 1, 0), row(1), row(1), row(0), row(1), row(1))
	means(t, read(t, "a", "most = a -> if pre most < a then a else pre most"), column(3, 1, 4, 1, 5), row(3), row(3), row(4), row(4), row(5))
	means(t, read(t, "x = 1 -> pre x * 2"), empty(66)[:64], powers(64)...)
	means(t, read(t, "x = 1 -> pre x * 2"), empty(66), append(powers(64), row(0), row(0))...)
}

func powers(count int) [][]int64 {
	var l [][]int64
	for i := range count {
		l = append(l, row(int64(uint64(1)<<i)))
	}
	return l
}

// P12.1: flows that ask for such as are declared behind them, and how they are when all stand the other way round.
func TestDeclaredBehind(t *testing.T) {
	lines := []string{"x = y + 1", "y = z * 2", "z = a - (0 -> pre x)"}
	ins := column(5, 6, 7)
	means(t, read(t, "a", lines[0], lines[1], lines[2]), ins, row(11, 10, 5), row(-9, -10, -5), row(33, 32, 16))
	means(t, read(t, "a", lines[2], lines[1], lines[0]), ins, row(5, 10, 11), row(-5, -10, -9), row(16, 32, 33))
	means(t, read(t, lines[1], lines[0], "a", lines[2]), ins, row(10, 11, 5), row(-10, -9, -5), row(32, 33, 16))
	means(t, read(t, "x = y", "y at 2 = a", "a at 2"), ins, row(5, 5), row(6, 6), row(7, 7))
}

// ladder tells a program each of whose flows asks for the next one twice, at once and an instant ago; the last one asks for a.
func ladder(stations int) api.Prog {
	p := api.Prog{Stations: stations, Ins: []api.In{{Name: "a", Type: api.TyInt, Station: 1}}}
	for i := range api.MaxFlows {
		next := name(fmt.Sprint("f", i+1))
		if i == api.MaxFlows-1 {
			next = name("a")
		}
		body := of(api.ExAdd, of(api.ExAdd, next, next), of(api.ExThen, next, of(api.ExPre, next)))
		p.Flows = append(p.Flows, api.Flow{Name: fmt.Sprint("f", i), Type: api.TyInt, Station: 1 + i%stations, Body: body})
	}
	return p
}

// P12.1, R1: a flow that many others ask for is worked out once, else this would not end; in either order of Flows.
func TestManyAskForOne(t *testing.T) {
	for _, stations := range []int{1, api.MaxStations} {
		p := ladder(stations)
		l, e := Run(p, slices.Repeat(column(1), 50))
		if e != api.OK || len(l) != 50 {
			t.Fatalf("%d, %d rows", e, len(l))
		}
		for i, r := range l {
			power := int64(1)
			for place := len(r) - 1; place >= 0; place-- {
				power *= 3
				if r[place] != power {
					t.Fatalf("flow %d at %d is %d, want %d", place, i, r[place], power)
				}
			}
		}
		slices.Reverse(p.Flows)
		back, e := Run(p, slices.Repeat(column(1), 50))
		for _, r := range back {
			slices.Reverse(r)
		}
		if e != api.OK || !sameRows(l, back) {
			t.Errorf("the other way round it is another one: %d", e)
		}
	}
	lines := []string{"a", "hub = a * a"}
	for i := range api.MaxFlows - 1 {
		lines = append(lines, fmt.Sprintf("f%d at %d = hub + %d", i, 1+i%2, i))
	}
	l, e := Run(read(t, lines...), column(3, 4))
	for i := range api.MaxFlows - 1 {
		if e != api.OK || l[0][1+i] != int64(9+i) || l[1][1+i] != int64(16+i) {
			t.Fatalf("flow %d: %d, %s", i, e, shown(l))
		}
	}
}

// P12.1, R1: the most that rows, flows and how deep they are may be, at the same time.
func TestGreatest(t *testing.T) {
	p := api.Prog{Stations: api.MaxStations}
	for i := range api.MaxIns {
		p.Ins = append(p.Ins, api.In{Name: fmt.Sprint("i", i), Type: api.TyInt, Station: 1 + i%api.MaxStations})
	}
	for i := range api.MaxFlows {
		body := name(fmt.Sprint("f", i+1))
		if i == api.MaxFlows-1 {
			body = of(api.ExAdd, name(fmt.Sprint("i", api.MaxIns-1)), of(api.ExThen, api.Expr{Op: api.ExInt}, of(api.ExPre, name("f0"))))
		} else {
			for range api.MaxDeep - 1 {
				body = of(api.ExThen, api.Expr{Op: api.ExInt, N: 1}, body)
			}
		}
		p.Flows = append(p.Flows, api.Flow{Name: fmt.Sprint("f", i), Type: api.TyInt, Station: 1 + i%api.MaxStations, Body: body})
	}
	ins := make([][]int64, api.MaxRounds)
	for i := range ins {
		ins[i] = make([]int64, api.MaxIns)
		ins[i][api.MaxIns-1] = int64(i)
	}
	l, e := Run(p, ins)
	if e != api.OK || len(l) != len(ins) {
		t.Fatalf("%d, %d rows", e, len(l))
	}
	sum := int64(1)
	for i, r := range l[1:] {
		sum += int64(i + 1)
		if r[0] != sum || r[len(r)-1] != sum || len(r) != api.MaxFlows {
			t.Fatalf("at %d: %s, want %d", i+1, shown(r), sum)
		}
	}
}

// P12.2: from has just as many numbers as there are Ins and Flows; else ErrArg, ahead of ErrType, behind all the others.
func TestFromOfWrongLength(t *testing.T) {
	p := read(t, "b: bool", "a", "x = a", "y at 2 = x", "z = 1")
	good := rows(row(0, 1), row(1, 2))
	meansWith(t, p, good, []int{-1, -1, -1, -1, -1}, row(1, 1, 1), row(2, 2, 1))
	for _, count := range []int{0, 1, 2, 3, 4, 6, 7, 100, 1 << 20} {
		for _, number := range []int{-1, 0, 1, math.MaxInt, math.MinInt} {
			from := slices.Repeat([]int{number}, count)
			refusesWith(t, p, good, from, api.ErrArg)
			refusesWith(t, p, nil, from, api.ErrArg)
			refusesWith(t, p, rows(row(2, 1)), from, api.ErrArg)
			refusesWith(t, p, rows(row(1)), from, api.ErrArg)
			refusesWith(t, p, empty(api.MaxRounds+1), from, api.ErrLimit)
		}
	}
	refusesWith(t, p, good, nil, api.ErrArg)
	refusesWith(t, p, rows(row(1)), nowhere(p), api.ErrArg)
	refusesWith(t, p, rows(row(2, 1)), nowhere(p), api.ErrType)
	refusesWith(t, read(t), nil, []int{0}, api.ErrArg)
	meansWith(t, read(t), empty(1), nil, nil)
	meansWith(t, read(t), empty(1), []int{}, nil)
	for i, line := range []string{"x = none", "x = true", "x = x", "x = pre x"} {
		refusesWith(t, read(t, line), rows(row(1)), []int{0, 0, 0}, []api.Errno{api.ErrName, api.ErrType, api.ErrLoop, api.ErrStart}[i])
	}
	refusesWith(t, api.Prog{}, nil, []int{0}, api.ErrArg)
	refusesWith(t, api.Prog{}, nil, nil, api.ErrArg)
}

// P12.2: one name is told, of an In or a flow, at each instant, also below 0, the last one and behind it; who is of its station and who is not; at once and an instant ago.
func TestFromOfOneName(t *testing.T) {
	const instants = 4
	p := read(t, "a at 1", "x at 2 default 9 = 100",
		"an at 1 = a", "af at 2 = a", "ap at 1 = 0 -> pre a", "aq at 2 = 0 -> pre a",
		"xn at 2 = n", "xf at 1 = n", "xp at 2 = 0 -> pre n", "xq at 1 = 0 -> pre n",
		"n at 2 default 9 = 0 -> pre n + 1")
	ins := column(5, 6, 7, 8)
	for _, told := range []int{math.MinInt, -2, -1, 0, 1, 2, 3, 4, 5, math.MaxInt} {
		gone := func(instant int) bool { return told >= 0 && instant >= told }
		var ofA, ofN, none [][]int64
		for i := range instants {
			was := max(i-1, 0)
			a, n := ins[i][0], int64(i)
			plain := row(100, a, a, 0, 0, n, n, 0, 0, n)
			if i > 0 {
				plain[3], plain[4], plain[7], plain[8] = ins[was][0], ins[was][0], int64(was), int64(was)
			}
			none = append(none, plain)
			one, other := slices.Clone(plain), slices.Clone(plain)
			if gone(i) {
				one[2], other[6] = 0, 9
			}
			if i > 0 && gone(was) {
				one[4], other[8] = 0, 9
			}
			ofA, ofN = append(ofA, one), append(ofN, other)
		}
		from := nowhere(p)
		meansWith(t, p, ins, from, none...)
		from[0] = told
		meansWith(t, p, ins, from, ofA...)
		from[0], from[len(from)-1] = -1, told
		meansWith(t, p, ins, from, ofN...)
		for place := 1; place < len(from)-1; place++ { // nobody asks for these
			from = nowhere(p)
			from[place] = told
			meansWith(t, p, ins, from, none...)
		}
	}
}

// P12.2: the default of a number, below 0 too, of yes and of no, and of Ins of both types.
func TestDefaults(t *testing.T) {
	p := read(t, "a at 2", "b: bool at 2",
		"n at 2 default -9223372036854775807 = a", "y: bool at 2 default true = b", "no: bool at 2 default false = not b",
		"ga = a", "gb: bool = b", "gn = n", "gy: bool = y", "gno: bool = no")
	ins := rows(row(5, 1), row(6, 0))
	own := rows(row(5, 1, 0), row(6, 0, 1))
	with := func(i int, l ...int64) []int64 { return append(slices.Clone(own[i]), l...) }
	means(t, p, ins, with(0, 5, 1, 5, 1, 0), with(1, 6, 0, 6, 0, 1))
	all := slices.Repeat([]int{0}, 10)
	meansWith(t, p, ins, all, with(0, 0, 0, -greatest, 1, 0), with(1, 0, 0, -greatest, 1, 0))
	meansWith(t, p, ins, slices.Repeat([]int{1}, 10), with(0, 5, 1, 5, 1, 0), with(1, 0, 0, -greatest, 1, 0))
	meansWith(t, p, ins, []int{0, -1, 1, -7, 0, -1, -1, -1, -1, -1}, with(0, 0, 1, 5, 1, 0), with(1, 0, 0, -greatest, 0, 0))
	meansWith(t, p, ins, slices.Repeat([]int{2}, 10), with(0, 5, 1, 5, 1, 0), with(1, 6, 0, 6, 0, 1))
	meansWith(t, read(t, "x at 1 default 7 = 1", "y at 2 = x", "z at 2 default 8 = y"), empty(1), []int{0, -1, -1}, row(1, 7, 7))
}

// P12.2: what is lost to one station goes on to those that ask that one; the Default of who asks is none of it; who has two names of one flow's body told has both.
func TestLossGoesOn(t *testing.T) {
	p := read(t, "a at 1", "x at 2 default 9 = a + 1", "y at 2 default 8 = x * 10", "z at 1 default 7 = y + a")
	ins := column(1, 2, 3)
	means(t, p, ins, row(2, 20, 21), row(3, 30, 32), row(4, 40, 43))
	meansWith(t, p, ins, []int{1, -1, -1, -1}, row(2, 20, 21), row(1, 10, 12), row(1, 10, 13))
	meansWith(t, p, ins, []int{-1, 1, -1, -1}, row(2, 20, 21), row(3, 30, 32), row(4, 40, 43))
	meansWith(t, p, ins, []int{-1, -1, 1, -1}, row(2, 20, 21), row(3, 30, 10), row(4, 40, 11))
	meansWith(t, p, ins, []int{2, -1, 1, 0}, row(2, 20, 21), row(3, 30, 10), row(1, 10, 11))
	state := read(t, "far at 2 default 5 = 0 -> pre sum", "sum at 1 = (0 -> pre sum) + far + 1")
	means(t, state, empty(4), row(0, 1), row(1, 3), row(3, 7), row(7, 15))
	meansWith(t, state, empty(4), []int{2, -1}, row(0, 1), row(1, 3), row(3, 9), row(9, 15))
	meansWith(t, state, empty(4), []int{-1, 1}, row(0, 1), row(1, 3), row(0, 4), row(0, 5))
	meansWith(t, state, empty(4), []int{0, 0}, row(0, 6), row(0, 12), row(0, 18), row(0, 24))
	both := read(t, "a at 1", "b at 3", "x at 2 = a * 10 + b", "y at 1 = a * 10 + b", "z at 3 = a * 10 + b")
	meansWith(t, both, rows(row(1, 2), row(3, 4)), []int{1, 0, -1, -1, -1}, row(10, 10, 12), row(0, 30, 4))
}

// P12.2: a name that stands at once and an instant ago in one body, between stations.
func TestAtOnceAndAgo(t *testing.T) {
	p := read(t, "a at 1", "x at 2 = a * 100 + (50 -> pre a)")
	ins := column(1, 2, 3, 4)
	means(t, p, ins, row(150), row(201), row(302), row(403))
	meansWith(t, p, ins, []int{0, -1}, row(50), row(0), row(0), row(0))
	meansWith(t, p, ins, []int{1, -1}, row(150), row(1), row(0), row(0))
	meansWith(t, p, ins, []int{3, -1}, row(150), row(201), row(302), row(3))
	meansWith(t, p, ins, []int{4, 0}, row(150), row(201), row(302), row(403))
	far := read(t, "a at 1", "x at 2 = 7 -> pre (8 -> pre a)")
	meansWith(t, far, ins, []int{1, -1}, row(7), row(8), row(1), row(0))
	meansWith(t, far, ins, []int{0, -1}, row(7), row(8), row(0), row(0))
	meansWith(t, far, ins, []int{2, -1}, row(7), row(8), row(1), row(2))
}
