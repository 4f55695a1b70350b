package flows

import (
	"fmt"
	"math"
	"slices"
	"strings"
	"sync"
	"testing"
	"unsafe"

	"belfry/api"
	"belfry/circles"
	"belfry/exprs"
	"belfry/names"
	"belfry/starts"
	"belfry/types"
)

// chance tells numbers that look like chance and are the same in each run.
func chance(seed uint64) func(below int) int {
	return func(below int) int {
		seed = seed*6364136223846793005 + 1442695040888963407
		return int(seed >> 33 % uint64(below))
	}
}

// grower grows programs that have a meaning.
type grower struct {
	next func(below int) int
	prog api.Prog
	rank []int // a flow asks at once only for flows of a lower rank
}

// pick tells a name of a type that a flow of that rank may ask for; a number, or yes or no, if there is none.
func (g *grower) pick(t api.Type, rank int, ago int) api.Expr {
	var l []string
	for _, head := range g.prog.Ins {
		if head.Type == t {
			l = append(l, head.Name)
		}
	}
	for i, f := range g.prog.Flows {
		if f.Type == t && (ago > 0 || g.rank[i] < rank) {
			l = append(l, f.Name)
		}
	}
	if len(l) == 0 || g.next(6) == 0 {
		return g.literal(t)
	}
	return name(l[g.next(len(l))])
}

func (g *grower) literal(t api.Type) api.Expr {
	if t == api.TyBool {
		return api.Expr{Op: api.ExBool, N: int64(g.next(2))}
	}
	return api.Expr{Op: api.ExInt, N: []int64{0, 1, 2, 3, 7, 10, 1 << 40, greatest}[g.next(8)]}
}

// body tells what is worked out, of a type, at most so deep, that has a value from the instant start on.
func (g *grower) body(t api.Type, rank, deep, start, ago int) api.Expr {
	if deep <= 1 || g.next(7) == 0 {
		return g.pick(t, rank, ago)
	}
	part := func(t api.Type, start int) api.Expr { return g.body(t, rank, deep-1, start, ago) }
	switch kind := g.next(8); {
	case kind < 3 && start > 0:
		return of(api.ExPre, g.body(t, rank, deep-1, start-1, ago+1))
	case kind < 3:
		return of(api.ExThen, part(t, 0), part(t, 1))
	case kind == 3 && start > 0:
		return of(api.ExThen, part(t, g.next(3)), part(t, start))
	case kind == 4:
		return of(api.ExIf, part(api.TyBool, start), part(t, start), part(t, start))
	case t == api.TyInt && kind == 5:
		return of(api.ExNeg, part(t, start))
	case t == api.TyInt:
		return of(api.ExAdd+api.Op(g.next(5)), part(t, start), part(t, start))
	case kind == 5:
		return of(api.ExNot, part(t, start))
	case kind == 6:
		return of(api.ExAnd+api.Op(g.next(2)), part(t, start), part(t, start))
	}
	if g.next(2) == 0 {
		return of(api.ExLt+api.Op(g.next(2)), part(api.TyInt, start), part(api.TyInt, start))
	}
	both := api.TyInt + api.Type(g.next(2))
	return of([]api.Op{api.ExEq, api.ExNe}[g.next(2)], part(both, start), part(both, start))
}

// grown tells a program of so many stations that has a meaning, rows for it, and instants from below 0 to behind the last row.
func grown(next func(int) int, stations int) (api.Prog, [][]int64, []int) {
	g := &grower{next: next, prog: api.Prog{Stations: stations}}
	for i := range next(5) {
		g.prog.Ins = append(g.prog.Ins, api.In{Name: fmt.Sprint("i", i), Type: api.TyInt + api.Type(next(2)), Station: 1 + next(stations)})
	}
	for i := range 1 + next(9) {
		f := api.Flow{Name: fmt.Sprint("f", i), Type: api.TyInt + api.Type(next(2)), Station: 1 + next(stations)}
		f.Default = int64(next(2))
		if f.Type == api.TyInt {
			f.Default = int64(next(200) - 100)
		}
		g.prog.Flows = append(g.prog.Flows, f)
		g.rank = slices.Insert(g.rank, next(i+1), i)
	}
	for i, f := range g.prog.Flows {
		x := g.body(f.Type, g.rank[i], 1+next(6), 0, 0)
		if !exprs.Check(x) {
			x = g.pick(f.Type, g.rank[i], 0)
		}
		g.prog.Flows[i].Body = x
	}
	ins := make([][]int64, next(9))
	for i := range ins {
		for _, head := range g.prog.Ins {
			ins[i] = append(ins[i], g.number(head.Type))
		}
	}
	var from []int
	for range len(g.prog.Ins) + len(g.prog.Flows) {
		from = append(from, next(len(ins)+5)-3)
	}
	return g.prog, ins, from
}

func (g *grower) number(t api.Type) int64 {
	if t == api.TyBool {
		return int64(g.next(2))
	}
	return []int64{0, 1, -1, int64(g.next(100)), -int64(g.next(100)), greatest, least, int64(g.next(1<<31)) << 33}[g.next(8)]
}

// oracle tells what flows are in the chapter's words, in another way than the program does: the flows of an instant are gone through again and again, till each is known.
type oracle struct {
	prog  api.Prog
	ins   [][]int64
	from  []int
	known [][]int64
	is    [][]bool
}

// at tells what is worked out at a station and an instant; false, while that is not known.
func (o *oracle) at(x api.Expr, station, instant int) (int64, bool) {
	switch x.Op {
	case api.ExInt, api.ExBool:
		return x.N, true
	case api.ExName:
		return o.name(x.Name, station, instant)
	case api.ExPre:
		return o.at(x.Args[0], station, instant-1)
	case api.ExThen:
		return o.at(x.Args[min(instant, 1)], station, instant)
	}
	var l []int64
	for _, part := range x.Args {
		n, ok := o.at(part, station, instant)
		if !ok {
			return 0, false
		}
		l = append(l, n)
	}
	return reckoned(x.Op, l), true
}

func (o *oracle) name(s string, station, instant int) (int64, bool) {
	gone := func(home, place int) bool {
		return home != station && o.from[place] >= 0 && instant >= o.from[place]
	}
	for i, head := range o.prog.Ins {
		if head.Name == s && gone(head.Station, i) {
			return 0, true
		} else if head.Name == s {
			return o.ins[instant][i], true
		}
	}
	for i, f := range o.prog.Flows {
		if f.Name == s && gone(f.Station, len(o.prog.Ins)+i) {
			return f.Default, true
		} else if f.Name == s {
			return o.known[instant][i], o.is[instant][i]
		}
	}
	panic(s)
}

func yesIf(so bool) int64 {
	if so {
		return 1
	}
	return 0
}

func reckoned(o api.Op, l []int64) int64 {
	switch o {
	case api.ExNeg:
		return 0 - l[0]
	case api.ExNot:
		return 1 - l[0]
	case api.ExIf:
		return l[2-l[0]]
	case api.ExAdd:
		return l[0] + l[1]
	case api.ExSub:
		return l[0] - l[1]
	case api.ExMul:
		return l[0] * l[1]
	case api.ExDiv, api.ExMod:
		if l[1] == 0 {
			return 0
		} else if o == api.ExDiv {
			return l[0] / l[1]
		}
		return l[0] % l[1]
	case api.ExEq:
		return yesIf(l[0] == l[1])
	case api.ExNe:
		return yesIf(l[0] != l[1])
	case api.ExLt:
		return yesIf(l[0] < l[1])
	case api.ExLe:
		return yesIf(l[0] <= l[1])
	case api.ExAnd:
		return l[0] & l[1]
	}
	return l[0] | l[1]
}

// told tells what With answers, in the chapter's words.
func told(p api.Prog, ins [][]int64, from []int) ([][]int64, api.Errno) {
	if e := toldError(p, ins, from); e != api.OK {
		return nil, e
	}
	o := &oracle{prog: p, ins: ins, from: from}
	for instant := range ins {
		o.known = append(o.known, make([]int64, len(p.Flows)))
		o.is = append(o.is, make([]bool, len(p.Flows)))
		for slices.Contains(o.is[instant], false) {
			for i, f := range p.Flows {
				o.known[instant][i], o.is[instant][i] = o.at(f.Body, f.Station, instant)
			}
		}
	}
	return o.known, api.OK
}

func toldError(p api.Prog, ins [][]int64, from []int) api.Errno {
	for _, e := range []api.Errno{names.Check(p), types.Check(p), circles.Check(p), starts.Check(p)} {
		if e != api.OK {
			return e
		}
	}
	if len(ins) > api.MaxRounds {
		return api.ErrLimit
	}
	if len(from) != len(p.Ins)+len(p.Flows) || slices.ContainsFunc(ins, func(r []int64) bool { return len(r) != len(p.Ins) }) {
		return api.ErrArg
	}
	for _, r := range ins {
		for i, head := range p.Ins {
			if head.Type == api.TyBool && r[i] != 0 && r[i] != 1 {
				return api.ErrType
			}
		}
	}
	return api.OK
}

// asTold holds Run and With against the chapter's words.
func asTold(t *testing.T, p api.Prog, ins [][]int64, from []int) api.Errno {
	t.Helper()
	want, e := told(p, ins, from)
	if e != api.OK {
		refusesWith(t, p, ins, from, e)
	} else {
		meansWith(t, p, ins, from, want...)
	}
	want, f := told(p, ins, nowhere(p))
	if f != api.OK {
		refuses(t, p, ins, f)
	} else {
		means(t, p, ins, want...)
	}
	return e
}

// P12.1, P12.2: many programs of all numbers of stations, held against the chapter's words.
func TestMany(t *testing.T) {
	next := chance(121)
	differs, ops := 0, map[api.Op]int{}
	for range 3000 {
		p, ins, from := grown(next, 1+next(api.MaxStations))
		if e := asTold(t, p, ins, from); e != api.OK {
			t.Errorf("%s: %d", text(p), e)
		}
		plain, _ := Run(p, ins)
		with, _ := With(p, ins, from)
		if !sameRows(plain, with) {
			differs++
		}
		for _, f := range p.Flows {
			countOps(f.Body, ops)
		}
	}
	if differs < 500 {
		t.Errorf("only %d differ", differs)
	}
	for o := api.ExInt; o <= api.ExPre; o++ {
		if ops[o] < 100 {
			t.Errorf("operator %d is there %d times", o, ops[o])
		}
	}
}

func countOps(x api.Expr, ops map[api.Op]int) {
	ops[x.Op]++
	for _, part := range x.Args {
		countOps(part, ops)
	}
}

// P12.3: what a flow is hangs on no later row: rows that are cut off, or changed, change nothing ahead of them.
func TestLaterRowsDoNotCount(t *testing.T) {
	next := chance(122)
	for range 500 {
		p, ins, from := grown(next, 1+next(4))
		all, _ := With(p, ins, from)
		plain, _ := Run(p, ins)
		for count := range len(ins) + 1 {
			meansWith(t, p, ins[:count], from, all[:count]...)
			means(t, p, ins[:count], plain[:count]...)
			other := copiedRows(ins)
			for _, r := range other[count:] {
				for i, head := range p.Ins {
					r[i] = 1 - r[i]
					if head.Type == api.TyInt {
						r[i] = int64(next(1000))
					}
				}
			}
			l, e := With(p, other, from)
			m, f := Run(p, other)
			if e != api.OK || f != api.OK || !sameRows(l[:count], all[:count]) || !sameRows(m[:count], plain[:count]) {
				t.Errorf("%s: rows from %d on change what is ahead of them", text(p), count)
			}
		}
	}
}

// P12.3: with no instant told, all below 0 in whatever way, and with all behind the last row, With is Run.
func TestNoneTold(t *testing.T) {
	next := chance(123)
	for range 1500 {
		p, ins, from := grown(next, 1+next(api.MaxStations))
		plain, _ := Run(p, ins)
		for i := range from {
			from[i] = []int{-1, -2, -1000, math.MinInt, math.MinInt + 1, math.MinInt32}[next(6)]
		}
		meansWith(t, p, ins, from, plain...)
		for i := range from {
			from[i] = []int{len(ins), len(ins) + 1, api.MaxRounds, math.MaxInt32, math.MaxInt}[next(5)]
		}
		meansWith(t, p, ins, from, plain...)
	}
}

// P12.3: in a program of one station With is Run, whatever instants are told.
func TestOneStation(t *testing.T) {
	next := chance(124)
	for range 1500 {
		p, ins, from := grown(next, 1)
		plain, e := Run(p, ins)
		if e != api.OK {
			t.Errorf("%s: %d", text(p), e)
		}
		meansWith(t, p, ins, from, plain...)
		for _, number := range []int{0, 1, 2, math.MaxInt, math.MinInt} {
			meansWith(t, p, ins, slices.Repeat([]int{number}, len(from)), plain...)
		}
		for i := range p.Ins { // of more stations, but all things are of one
			p.Ins[i].Station = 3
		}
		for i := range p.Flows {
			p.Flows[i].Station = 3
		}
		p.Stations = 4
		meansWith(t, p, ins, from, plain...)
	}
}

// hangs tells of each flow whether it hangs on something of another station, by itself or by what it asks for.
func hangs(p api.Prog) []bool {
	l := make([]bool, len(p.Flows))
	for range p.Flows {
		for i, f := range p.Flows {
			for _, ref := range exprs.Refs(f.Body) {
				station, _, flow, _ := names.Find(p, ref.Name)
				l[i] = l[i] || station != f.Station || flow >= 0 && l[flow]
			}
		}
	}
	return l
}

// P12.3: what hangs on nothing of another station is the same in both.
func TestOwnOnly(t *testing.T) {
	next := chance(125)
	free := 0
	for range 3000 {
		p, ins, from := grown(next, 2+next(2))
		plain, _ := Run(p, ins)
		with, e := With(p, ins, from)
		if e != api.OK {
			t.Errorf("%s: %d", text(p), e)
			continue
		}
		for place, far := range hangs(p) {
			for i := range ins {
				if !far && plain[i][place] != with[i][place] {
					t.Errorf("%s: flow %d is another one at %d", text(p), place, i)
				}
			}
			if !far && len(exprs.Refs(p.Flows[place].Body)) > 0 {
				free++
			}
		}
	}
	if free < 1000 {
		t.Errorf("only %d", free)
	}
}

// P12.1, P12.2: flows in another order, and Ins, mean the same, each at its place.
func TestAnotherOrder(t *testing.T) {
	next := chance(126)
	for range 1500 {
		p, ins, from := grown(next, 1+next(4))
		want, _ := With(p, ins, from)
		q := p
		q.Flows = nil
		turned := slices.Clone(from[:len(p.Ins)])
		var places []int
		for i := range p.Flows {
			places = slices.Insert(places, next(i+1), i)
		}
		for _, place := range places {
			q.Flows = append(q.Flows, p.Flows[place])
			turned = append(turned, from[len(p.Ins)+place])
		}
		l, e := With(q, ins, turned)
		for i, r := range l {
			for to, place := range places {
				if r[to] != want[i][place] {
					t.Errorf("%s and %s: %v and %v at %d", text(p), text(q), want[i], r, i)
				}
			}
		}
		if e != api.OK || len(l) != len(want) {
			t.Errorf("%s: %d, %d rows", text(q), e, len(l))
		}
	}
	p := read(t, "a", "b", "x = a - b")
	means(t, p, rows(row(5, 3)), row(2))
	slices.Reverse(p.Ins)
	means(t, p, rows(row(5, 3)), row(-2))
}

// wild spoils a program, its rows or its instants in some way.
func wild(next func(int) int, p *api.Prog, ins *[][]int64, from *[]int) {
	f := &p.Flows[next(len(p.Flows))]
	switch next(16) {
	case 0:
		p.Stations = []int{0, -1, 9, math.MinInt, math.MaxInt}[next(5)]
	case 1:
		f.Station = []int{0, -1, 9, math.MaxInt}[next(4)]
	case 2:
		f.Type = api.Type(next(256))
	case 3:
		f.Default = []int64{least, -1, 2, 5}[next(4)]
	case 4:
		f.Body = name([]string{"none", "f0", "f1", "i0", "", "pre"}[next(6)])
	case 5:
		f.Body = of(api.ExPre, f.Body)
	case 6:
		f.Body = of(api.Op(next(256)), f.Body, f.Body)
	case 7:
		f.Body = of(api.ExThen, f.Body, of(api.ExPre, name(f.Name)))
	case 8:
		f.Body = of(api.ExThen, f.Body, name(f.Name))
	case 9:
		f.Name = []string{"", "f0", "f1", "i0", "pre", strings.Repeat("x", 41)}[next(6)]
	case 10:
		p.Outs = []string{"f0", []string{"f0", "f1", "none", "1"}[next(4)]}
	case 11:
		*from = (*from)[:next(len(*from))]
	case 12:
		*from = append(*from, next(5))
	case 13:
		*ins = append(*ins, make([]int64, next(4)))
	case 14:
		*ins = append(*ins, slices.Repeat([]int64{2}, len(p.Ins)))
	case 15:
		*ins = make([][]int64, api.MaxRounds+1)
	}
}

// R1, R2: programs, rows and instants that may not be: none panics, each answers what the chapter says.
func TestWild(t *testing.T) {
	next := chance(127)
	count := map[api.Errno]int{}
	for range 6000 {
		p, ins, from := grown(next, 1+next(3))
		for range 1 + next(3) {
			wild(next, &p, &ins, &from)
			if len(from) == 0 {
				break
			}
		}
		count[asTold(t, p, ins, from)]++
	}
	for _, e := range []api.Errno{api.OK, api.ErrArg, api.ErrLimit, api.ErrName, api.ErrType, api.ErrLoop, api.ErrStart} {
		if count[e] < 20 {
			t.Errorf("%v", count)
		}
	}
}

// R1: bodies that hold themselves, and such as are far too deep or too great.
func TestEndlessBodies(t *testing.T) {
	self := of(api.ExNeg, api.Expr{})
	self.Args[0] = self
	twice := of(api.ExAdd, api.Expr{}, api.Expr{})
	twice.Args[0], twice.Args[1] = twice, twice
	deep := api.Expr{Op: api.ExInt}
	for range 1 << 16 {
		deep = of(api.ExNeg, deep)
	}
	for _, body := range []api.Expr{self, twice, deep, {}, {Op: 255}, {Op: api.ExInt, N: -1}, {Op: api.ExIf}, {Op: api.ExName}} {
		p := read(t, "a", "x = a", "y = x")
		p.Flows[1].Body = body
		refuses(t, p, column(1), api.ErrArg)
		refusesWith(t, p, nil, nil, api.ErrArg)
	}
	for _, p := range []api.Prog{{Stations: 1, Flows: make([]api.Flow, 1<<16)}, {Stations: 1, Ins: make([]api.In, 1<<16)}, {Stations: 1, Outs: make([]string, 1<<16)}} {
		refuses(t, p, column(1), api.ErrArg)
	}
}

// R1: any instants.
func TestAnyInstants(t *testing.T) {
	p := read(t, "a at 1", "x at 2 default 9 = a", "y at 1 = 0 -> pre x")
	ins := column(5, 6, 7)
	all := []int{math.MinInt, math.MinInt + 1, -1, 0, 1, 2, 3, 4, api.MaxRounds, math.MaxInt - 1, math.MaxInt}
	for _, a := range all {
		for _, x := range all {
			for _, y := range all {
				asTold(t, p, ins, []int{a, x, y})
			}
		}
	}
}

func sameBody(x, y api.Expr) bool {
	return x.Op == y.Op && x.N == y.N && x.Name == y.Name && slices.EqualFunc(x.Args, y.Args, sameBody)
}

func same(p, q api.Prog) bool {
	return p.Stations == q.Stations && slices.Equal(p.Ins, q.Ins) && slices.Equal(p.Outs, q.Outs) &&
		slices.EqualFunc(p.Flows, q.Flows, func(f, g api.Flow) bool {
			return f.Name == g.Name && f.Type == g.Type && f.Station == g.Station && f.Default == g.Default && sameBody(f.Body, g.Body)
		})
}

func copiedBody(x api.Expr) api.Expr {
	x.Args = slices.Clone(x.Args)
	for i, part := range x.Args {
		x.Args[i] = copiedBody(part)
	}
	return x
}

// copied tells the same in memory of its own.
func copied(p api.Prog) api.Prog {
	p.Ins, p.Flows, p.Outs = slices.Clone(p.Ins), slices.Clone(p.Flows), slices.Clone(p.Outs)
	for i, f := range p.Flows {
		p.Flows[i].Body = copiedBody(f.Body)
	}
	return p
}

// roomy tells the same list with spare room that is filled with something, and whether that is still there.
func roomy[T any](l []T, something T, is func(x, y T) bool) ([]T, func() bool) {
	all := append(slices.Clone(l), something, something)
	return all[:len(l)], func() bool { return is(all[len(l)], something) && is(all[len(l)+1], something) }
}

func bodyWithRoom(x api.Expr, stays *[]func() bool) api.Expr {
	l, ok := roomy(x.Args, name("spare"), sameBody)
	*stays = append(*stays, ok)
	for i, part := range l {
		l[i] = bodyWithRoom(part, stays)
	}
	x.Args = l
	return x
}

// withRoom tells the same in lists with spare room that is filled, and whether all of that is as it was.
func withRoom(p api.Prog, ins [][]int64, from []int) (api.Prog, [][]int64, []int, func() bool) {
	var stays []func() bool
	keep := func(ok func() bool) { stays = append(stays, ok) }
	mine := p
	var ok func() bool
	mine.Ins, ok = roomy(p.Ins, api.In{Name: "spare"}, func(x, y api.In) bool { return x == y })
	keep(ok)
	mine.Flows, ok = roomy(p.Flows, api.Flow{Name: "spare"}, func(x, y api.Flow) bool { return x.Name == y.Name && sameBody(x.Body, y.Body) })
	keep(ok)
	for i, f := range mine.Flows {
		mine.Flows[i].Body = bodyWithRoom(f.Body, &stays)
	}
	mine.Outs, ok = roomy(p.Outs, "spare", func(x, y string) bool { return x == y })
	keep(ok)
	myIns, ok := roomy(ins, row(77), slices.Equal)
	keep(ok)
	for i, r := range myIns {
		myIns[i], ok = roomy(r, 77, func(x, y int64) bool { return x == y })
		keep(ok)
	}
	myFrom, ok := roomy(from, 77, func(x, y int) bool { return x == y })
	keep(ok)
	return mine, myIns, myFrom, func() bool {
		return same(mine, p) && sameRows(myIns, ins) && slices.Equal(myFrom, from) &&
			!slices.ContainsFunc(stays, func(ok func() bool) bool { return !ok() })
	}
}

// R4: what is handed in stays as it was, its spare room too, whatever is answered; and spare room counts for nothing.
func TestArgumentsStay(t *testing.T) {
	next := chance(128)
	for i := range 1500 {
		p, ins, from := grown(next, 1+next(4))
		if i%3 == 0 {
			wild(next, &p, &ins, &from)
		}
		p, ins, from = copied(p), copiedRows(ins), slices.Clone(from)
		mine, myIns, myFrom, stays := withRoom(p, ins, from)
		want, e := With(p, ins, from)
		plain, f := Run(p, ins)
		if l, g := With(mine, myIns, myFrom); !sameRows(l, want) || g != e {
			t.Errorf("spare room of %s counts", text(p))
		}
		if l, g := Run(mine, myIns); !sameRows(l, plain) || g != f {
			t.Errorf("spare room of %s counts", text(p))
		}
		if !stays() {
			t.Errorf("%s, or its rows, or its instants, are changed", text(p))
		}
	}
}

// R4: what was answered stays as it was when what was handed in is changed, and when another answer is.
func TestAnswersStay(t *testing.T) {
	next := chance(129)
	for range 1000 {
		p, ins, from := grown(next, 1+next(4))
		l, _ := With(p, ins, from)
		m, _ := With(p, ins, from)
		plain, _ := Run(p, ins)
		before, plainBefore := copiedRows(l), copiedRows(plain)
		for i, r := range m {
			for place := range r {
				r[place] = -77
			}
			m[i] = append(r, 77, 77)
		}
		for _, r := range ins {
			for place := range r {
				r[place] = 55
			}
		}
		for i := range from {
			from[i] = 0
		}
		for i := range p.Flows {
			p.Flows[i] = api.Flow{Name: "other", Default: 5}
		}
		if !sameRows(l, before) || !sameRows(plain, plainBefore) {
			t.Errorf("an answer is changed: %v, was %v", l, before)
		}
	}
}

// R4: no two lists of an answer share memory, their spare room neither; and none is what was handed in.
func TestAnswersShareNothing(t *testing.T) {
	p := read(t, "a", "b", "x = a", "y = b")
	ins := rows(row(1, 2), row(3, 4), row(5, 6), row(7, 8))
	for range 2 {
		l, _ := Run(p, ins)
		for i := range l {
			for _, r := range slices.Concat(l[:i], l[i+1:], ins) {
				if &r[:1][0] == &l[i][0] {
					t.Errorf("row %d is another one", i)
				}
			}
			full := l[i][:cap(l[i])]
			for place := range full {
				full[place] = -9
			}
			if rest := copiedRows(l[i+1:]); !sameRows(rest, ins[i+1:]) {
				t.Errorf("row %d changes others: %v", i, rest)
			}
		}
		if !sameRows(ins, rows(row(1, 2), row(3, 4), row(5, 6), row(7, 8))) {
			t.Errorf("%v", ins)
		}
	}
}

// R4: rows that are one and the same list are read, each by its content.
func TestSharedRows(t *testing.T) {
	p := read(t, "a", "s = a + (0 -> pre s)")
	one := row(2)
	l, e := Run(p, rows(one, one, one))
	if e != api.OK || !sameRows(l, column(2, 4, 6)) {
		t.Errorf("%v, %d", l, e)
	}
	one[0] = 5
	if again, _ := Run(p, rows(one, one)); !sameRows(again, column(5, 10)) || !sameRows(l, column(2, 4, 6)) {
		t.Errorf("%v, %v", again, l)
	}
}

// R4, R5: what is handed in is not kept: when its names' bytes change, or its rows, it is another program.
func TestNothingKept(t *testing.T) {
	letters := []byte("abc")
	p := read(t, "a", "d", "x = abc")
	p.Ins[0].Name = unsafe.String(&letters[0], len(letters))
	ins := rows(row(5, 6))
	means(t, p, ins, row(5))
	copy(letters, "uvw")
	refuses(t, p, ins, api.ErrName)
	p.Flows[0].Body = name("uvw")
	means(t, p, ins, row(5))
	ins[0][0] = 8
	means(t, p, ins, row(8))
	p.Flows[0].Body = name("d")
	means(t, p, ins, row(6))
}

// R5: what is answered hangs on nothing but what is handed in, however many ask at once.
func TestAtOnce(t *testing.T) {
	type asked struct {
		p          api.Prog
		ins        [][]int64
		from       []int
		want, with [][]int64
	}
	next := chance(130)
	var all []asked
	for range 60 {
		p, ins, from := grown(next, 1+next(4))
		want, _ := told(p, ins, nowhere(p))
		with, _ := told(p, ins, from)
		all = append(all, asked{p, ins, from, want, with})
	}
	var group sync.WaitGroup
	for range 8 {
		group.Go(func() {
			for _, a := range all {
				means(t, a.p, a.ins, a.want...)
				meansWith(t, a.p, a.ins, a.from, a.with...)
				refusesWith(t, a.p, a.ins, nil, api.ErrArg)
			}
		})
	}
	group.Wait()
}
