package values

import (
	"fmt"
	"math"
	"math/big"
	"slices"
	"strconv"
	"strings"
	"sync"
	"testing"

	"belfry/api"
)

const (
	least    = math.MinInt64
	greatest = math.MaxInt64
)

func num(n int64) api.Value { return api.Value{Type: api.TyInt, N: n} }
func bit(n int64) api.Value { return api.Value{Type: api.TyBool, N: n} }

func yes() api.Value { return bit(1) }
func no() api.Value  { return bit(0) }

func list(l ...api.Value) []api.Value { return l }

// yesIf tells yes or no.
func yesIf(so bool) api.Value {
	if so {
		return yes()
	}
	return no()
}

// signatures tells what each operator is of, as the chapter's table says it: i is a TyInt, b a TyBool; a word for each way.
func signatures() map[api.Op][]string {
	return map[api.Op][]string{
		api.ExNeg: {"i"},
		api.ExAdd: {"ii"}, api.ExSub: {"ii"}, api.ExMul: {"ii"},
		api.ExDiv: {"ii"}, api.ExMod: {"ii"},
		api.ExLt: {"ii"}, api.ExLe: {"ii"},
		api.ExEq: {"ii", "bb"}, api.ExNe: {"ii", "bb"},
		api.ExNot: {"b"}, api.ExAnd: {"bb"}, api.ExOr: {"bb"},
		api.ExIf: {"bii", "bbb"},
	}
}

// allOps tells all numbers that an operator may have, those of none too.
func allOps() []api.Op {
	var l []api.Op
	for o := range math.MaxUint8 + 1 {
		l = append(l, api.Op(o))
	}
	return l
}

// countOf tells how many values an operator is of, and 0 of what is none.
func countOf(o api.Op) int {
	if ways := signatures()[o]; len(ways) > 0 {
		return len(ways[0])
	}
	return 0
}

// mayBe tells whether a value may be, in the chapter's words.
func mayBe(v api.Value) bool {
	switch v.Type {
	case api.TyInt:
		return true
	case api.TyBool:
		return v.N == 0 || v.N == 1
	}
	return false
}

// edges tells numbers at which something may go wrong.
func edges() []int64 {
	return []int64{0, 1, -1, 2, -2, 3, -7, 7, 10, 1 << 31, -1 << 31, 1 << 32, 1<<32 + 1, -1 << 33, 1 << 62, -1 << 62, greatest - 1, greatest, least + 1, least}
}

// wrongValues tells values that may not be.
func wrongValues() []api.Value {
	l := list(api.Value{})
	for _, n := range []int64{2, 3, -1, -2, 256, 257, 1 << 32, 1<<32 + 1, greatest, least} {
		l = append(l, bit(n))
	}
	for _, ty := range []api.Type{api.TyNone, 3, 4, 129, 130, 255} {
		for _, n := range []int64{0, 1, -1, 2, least} {
			l = append(l, api.Value{Type: ty, N: n})
		}
	}
	return l
}

// chance tells numbers that look like chance and are the same in each run.
func chance(seed uint64) func() uint64 {
	return func() uint64 {
		seed = seed*6364136223846793005 + 1442695040888963407
		return seed>>33 ^ seed<<31
	}
}

// round tells a number of any length as 64 bits have it.
func round(n *big.Int) int64 {
	all := new(big.Int).Lsh(big.NewInt(1), 64)
	low := new(big.Int).Mod(n, all)
	return int64(low.Uint64())
}

// reckoned tells what an operator makes of two numbers, by numbers of any length that go round at the end.
func reckoned(o api.Op, a, b int64) api.Value {
	x, y, z := big.NewInt(a), big.NewInt(b), new(big.Int)
	switch o {
	case api.ExAdd:
		return num(round(z.Add(x, y)))
	case api.ExSub:
		return num(round(z.Sub(x, y)))
	case api.ExMul:
		return num(round(z.Mul(x, y)))
	case api.ExDiv, api.ExMod:
		if b == 0 {
			return num(0)
		}
		left := new(big.Int)
		z.QuoRem(x, y, left)
		if o == api.ExDiv {
			return num(round(z))
		}
		return num(round(left))
	case api.ExLt:
		return yesIf(x.Cmp(y) < 0)
	case api.ExLe:
		return yesIf(x.Cmp(y) <= 0)
	case api.ExEq:
		return yesIf(x.Cmp(y) == 0)
	}
	return yesIf(x.Cmp(y) != 0)
}

// told tells what Do answers, in the chapter's words.
func told(o api.Op, l []api.Value) (api.Value, api.Errno) {
	if countOf(o) == 0 || countOf(o) != len(l) || !all(l, mayBe) {
		return api.Value{}, api.ErrArg
	}
	if !slices.Contains(signatures()[o], letters(l)) {
		return api.Value{}, api.ErrType
	}
	switch o {
	case api.ExNeg:
		return reckoned(api.ExSub, 0, l[0].N), api.OK
	case api.ExNot:
		return yesIf(l[0] == no()), api.OK
	case api.ExAnd:
		return yesIf(all(l, func(v api.Value) bool { return v == yes() })), api.OK
	case api.ExOr:
		return yesIf(slices.Contains(l, yes())), api.OK
	case api.ExIf:
		if l[0] == yes() {
			return l[1], api.OK
		}
		return l[2], api.OK
	}
	return reckoned(o, l[0].N, l[1].N), api.OK
}

func all(l []api.Value, so func(api.Value) bool) bool {
	return !slices.ContainsFunc(l, func(v api.Value) bool { return !so(v) })
}

// letters tells the types of values, as signatures has them.
func letters(l []api.Value) string {
	var s strings.Builder
	for _, v := range l {
		s.WriteByte(" ib"[v.Type])
	}
	return s.String()
}

// filled tells values of the types of a word of signatures.
func filled(way string) []api.Value {
	l := list()
	for _, letter := range way {
		if letter == 'i' {
			l = append(l, num(7))
		} else {
			l = append(l, yes())
		}
	}
	return l
}

// eachList calls for each list of so many of the values.
func eachList(from []api.Value, count int, call func(l []api.Value)) {
	l := make([]api.Value, count)
	var fill func(place int)
	fill = func(place int) {
		if place == count {
			call(slices.Clone(l))
			return
		}
		for _, v := range from {
			l[place] = v
			fill(place + 1)
		}
	}
	fill(0)
}

// shown tells something, but not all of it.
func shown(x any) string { return fmt.Sprintf("%.300s", fmt.Sprint(x)) }

// makes asks Do for a value.
func makes(t *testing.T, o api.Op, l []api.Value, want api.Value) {
	t.Helper()
	if v, e := Do(o, l); v != want || e != api.OK {
		t.Errorf("Do(%d, %s) = %v, %d, want %v", o, shown(l), v, e, want)
	}
}

// refuses asks Do for an error, and nothing besides.
func refuses(t *testing.T, o api.Op, l []api.Value, want api.Errno) {
	t.Helper()
	if v, e := Do(o, l); v != (api.Value{}) || e != want {
		t.Errorf("Do(%d, %s) = %v, %d, want the error %d", o, shown(l), v, e, want)
	}
}

// asTold holds Do against the chapter's words.
func asTold(t *testing.T, o api.Op, l []api.Value) {
	t.Helper()
	if v, e := told(o, l); e != api.OK {
		refuses(t, o, l, e)
	} else {
		makes(t, o, l, v)
	}
}

// P11.1, P11.3: the chapter's examples.
func TestExamples(t *testing.T) {
	makes(t, api.ExDiv, list(num(-7), num(2)), num(-3))
	makes(t, api.ExMod, list(num(-7), num(2)), num(-1))
	makes(t, api.ExDiv, list(num(5), num(0)), num(0))
	makes(t, api.ExMod, list(num(5), num(0)), num(0))
	makes(t, api.ExAdd, list(num(greatest), num(1)), num(least))
	makes(t, api.ExDiv, list(num(least), num(-1)), num(least))
	makes(t, api.ExNeg, list(num(least)), num(least))
	makes(t, api.ExIf, list(yes(), num(1), num(2)), num(1))
	makes(t, api.ExLe, list(num(1), num(1)), yes())
	makes(t, api.ExNe, list(yes(), no()), yes())
	makes(t, api.ExOr, list(no(), yes()), yes())
	refuses(t, api.ExAdd, list(num(1)), api.ErrArg)
	refuses(t, api.ExPre, list(num(1)), api.ErrArg)
	refuses(t, api.ExNot, list(bit(2)), api.ErrArg)
	refuses(t, api.ExAdd, list(num(1), yes()), api.ErrType)
	refuses(t, api.ExIf, list(yes(), num(1), no()), api.ErrType)
	for v, want := range map[api.Value]string{num(-5): "-5", yes(): "true", bit(2): ""} {
		if s := Text(v); s != want {
			t.Errorf("Text(%v) = %q, want %q", v, s, want)
		}
	}
}

// P11.1: the operators of numbers that answer a number.
func TestSums(t *testing.T) {
	for a, want := range map[int64]int64{0: 0, 1: -1, -1: 1, 7: -7, -12: 12, greatest: -greatest, -greatest: greatest, least: least} {
		makes(t, api.ExNeg, list(num(a)), num(want))
	}
	for _, c := range []struct {
		o          api.Op
		a, b, want int64
	}{
		{api.ExAdd, 2, 3, 5}, {api.ExAdd, 2, -3, -1}, {api.ExAdd, -2, 2, 0}, {api.ExAdd, 0, 9, 9},
		{api.ExAdd, greatest, greatest, -2}, {api.ExAdd, least, least, 0}, {api.ExAdd, least, -1, greatest}, {api.ExAdd, least, greatest, -1},
		{api.ExSub, 2, 3, -1}, {api.ExSub, 3, 2, 1}, {api.ExSub, 2, -3, 5}, {api.ExSub, 4, 4, 0},
		{api.ExSub, least, 1, greatest}, {api.ExSub, greatest, -1, least}, {api.ExSub, 0, least, least}, {api.ExSub, -1, least, greatest}, {api.ExSub, 0, greatest, -greatest},
		{api.ExMul, 6, 7, 42}, {api.ExMul, -6, 7, -42}, {api.ExMul, 6, -7, -42}, {api.ExMul, -6, -7, 42}, {api.ExMul, 0, -7, 0},
		{api.ExMul, least, -1, least}, {api.ExMul, greatest, 2, -2}, {api.ExMul, greatest, greatest, 1}, {api.ExMul, least, 2, 0}, {api.ExMul, least, 3, least}, {api.ExMul, 1 << 32, 1 << 31, least}, {api.ExMul, 1 << 32, 1 << 32, 0},
		{api.ExDiv, 7, 2, 3}, {api.ExDiv, -7, 2, -3}, {api.ExDiv, 7, -2, -3}, {api.ExDiv, -7, -2, 3}, {api.ExDiv, 6, 3, 2}, {api.ExDiv, 1, 2, 0}, {api.ExDiv, -1, 2, 0}, {api.ExDiv, 0, 5, 0},
		{api.ExDiv, greatest, -1, -greatest}, {api.ExDiv, least, 1, least}, {api.ExDiv, least, 2, -1 << 62}, {api.ExDiv, least, least, 1}, {api.ExDiv, greatest, least, 0}, {api.ExDiv, least, greatest, -1},
		{api.ExMod, 7, 2, 1}, {api.ExMod, -7, 2, -1}, {api.ExMod, 7, -2, 1}, {api.ExMod, -7, -2, -1}, {api.ExMod, 6, 3, 0}, {api.ExMod, 1, 2, 1}, {api.ExMod, -1, 2, -1}, {api.ExMod, 0, 5, 0},
		{api.ExMod, least, -1, 0}, {api.ExMod, least, 10, -8}, {api.ExMod, greatest, 10, 7}, {api.ExMod, least, greatest, -1}, {api.ExMod, greatest, least, greatest}, {api.ExMod, least, least, 0},
	} {
		makes(t, c.o, list(num(c.a), num(c.b)), num(c.want))
	}
}

// P11.1: nothing is divided by 0, whatever it is.
func TestByNothing(t *testing.T) {
	for _, a := range edges() {
		makes(t, api.ExDiv, list(num(a), num(0)), num(0))
		makes(t, api.ExMod, list(num(a), num(0)), num(0))
	}
}

// P11.1: which of two is less; whether they are the same.
func TestHeldAgainst(t *testing.T) {
	for _, c := range []struct {
		a, b            int64
		less, orTheSame bool
	}{
		{1, 2, true, true}, {2, 1, false, false}, {2, 2, false, true}, {-1, 0, true, true}, {0, -1, false, false}, {-2, -1, true, true},
		{least, greatest, true, true}, {greatest, least, false, false}, {least, least, false, true}, {greatest, greatest, false, true},
		{least, 0, true, true}, {0, least, false, false}, {greatest, -1, false, false}, {-1, greatest, true, true}, {1, 1<<32 + 1, true, true},
	} {
		l := list(num(c.a), num(c.b))
		makes(t, api.ExLt, l, yesIf(c.less))
		makes(t, api.ExLe, l, yesIf(c.orTheSame))
		makes(t, api.ExEq, l, yesIf(c.orTheSame && !c.less))
		makes(t, api.ExNe, l, yesIf(!c.orTheSame || c.less))
	}
}

// P11.1: all that may be asked of yes and no.
func TestYesAndNo(t *testing.T) {
	makes(t, api.ExNot, list(yes()), no())
	makes(t, api.ExNot, list(no()), yes())
	for _, c := range []struct{ a, b, and, or, eq, ne int64 }{{0, 0, 0, 0, 1, 0}, {0, 1, 0, 1, 0, 1}, {1, 0, 0, 1, 0, 1}, {1, 1, 1, 1, 1, 0}} {
		l := list(bit(c.a), bit(c.b))
		makes(t, api.ExAnd, l, bit(c.and))
		makes(t, api.ExOr, l, bit(c.or))
		makes(t, api.ExEq, l, bit(c.eq))
		makes(t, api.ExNe, l, bit(c.ne))
	}
}

// P11.1: the second one or the third one, numbers or yes and no.
func TestIf(t *testing.T) {
	for _, a := range edges() {
		for _, b := range edges() {
			makes(t, api.ExIf, list(yes(), num(a), num(b)), num(a))
			makes(t, api.ExIf, list(no(), num(a), num(b)), num(b))
		}
	}
	for _, a := range list(yes(), no()) {
		for _, b := range list(yes(), no()) {
			makes(t, api.ExIf, list(yes(), a, b), a)
			makes(t, api.ExIf, list(no(), a, b), b)
		}
	}
}

// P11.1: all pairs of numbers at the edges, for each operator of two numbers, held against numbers of any length.
func TestPairs(t *testing.T) {
	for o, ways := range signatures() {
		if !slices.Contains(ways, "ii") {
			continue
		}
		for _, a := range edges() {
			for _, b := range edges() {
				makes(t, o, list(num(a), num(b)), reckoned(o, a, b))
			}
		}
	}
}

// P11.1: pairs of numbers of all lengths, for each operator.
func TestManyPairs(t *testing.T) {
	next := chance(11)
	for range 20000 {
		a, b := int64(next())>>(next()%64), int64(next())>>(next()%64)
		for o, ways := range signatures() {
			if slices.Contains(ways, "ii") {
				makes(t, o, list(num(a), num(b)), reckoned(o, a, b))
			}
		}
		asTold(t, api.ExNeg, list(num(a)))
	}
}

// P11.1: what is no operator of the table, at lists of all kinds, those that may not be too.
func TestNoOperator(t *testing.T) {
	lists := [][]api.Value{nil, {}, {num(1)}, {yes()}, {num(1), num(2)}, {yes(), no()}, {num(1), yes()}, {yes(), num(1), num(2)}, {yes(), yes(), no()}, {num(1), yes(), num(2)}, {bit(2)}, {{}}, {{}, {}}, {num(1), num(2), num(3), num(4)}}
	none := 0
	for _, o := range allOps() {
		if countOf(o) > 0 {
			continue
		}
		none++
		for _, l := range lists {
			refuses(t, o, l, api.ErrArg)
		}
	}
	if want := math.MaxUint8 + 1 - 14; none != want {
		t.Errorf("%d are no operators, want %d", none, want)
	}
	for _, o := range []api.Op{api.ExNone, api.ExInt, api.ExBool, api.ExName, api.ExThen, api.ExPre, api.ExPre + 1, 255} {
		for _, l := range lists {
			refuses(t, o, l, api.ErrArg)
		}
	}
}

// P11.1: too few values, too many, and none, whatever their types are.
func TestCount(t *testing.T) {
	for o := range signatures() {
		refuses(t, o, nil, api.ErrArg)
		refuses(t, o, list(), api.ErrArg)
		for count := range 8 {
			if count == countOf(o) {
				continue
			}
			refuses(t, o, slices.Repeat(list(num(1)), count), api.ErrArg)
			refuses(t, o, slices.Repeat(list(yes()), count), api.ErrArg)
			refuses(t, o, append(list(yes()), slices.Repeat(list(num(1)), count)...)[:count], api.ErrArg)
		}
		refuses(t, o, make([]api.Value, 1<<20), api.ErrArg)
		refuses(t, o, slices.Repeat(list(num(1)), 1<<20), api.ErrArg)
	}
}

// P11.1: what lies behind a list's end is none of its values.
func TestSpareRoomDoesNotCount(t *testing.T) {
	for o, ways := range signatures() {
		for _, way := range ways {
			long := append(filled(way), filled("iibb")...)
			for count := range len(way) {
				refuses(t, o, long[:count], api.ErrArg)
			}
			want, _ := told(o, filled(way))
			makes(t, o, long[:len(way)], want)
			makes(t, o, append(filled(way), api.Value{}, bit(2))[:len(way)], want)
		}
	}
}

// P11.1: a value that may not be, in each place of each operator, beside values of the right types and of wrong ones.
func TestMayNotBe(t *testing.T) {
	for o := range signatures() {
		for _, beside := range []string{"iii", "bbb", "bii", "iib", "ibi", "bbi", "bib", "ibb"} {
			for place := range countOf(o) {
				for _, wrong := range wrongValues() {
					l := filled(beside)[:countOf(o)]
					l[place] = wrong
					refuses(t, o, l, api.ErrArg)
				}
			}
		}
		for _, wrong := range wrongValues() {
			refuses(t, o, slices.Repeat(list(wrong), countOf(o)), api.ErrArg)
		}
	}
}

// P11.1: a wrong type in each place of each operator, at all numbers that both types have.
func TestWrongType(t *testing.T) {
	other := map[byte]byte{'i': 'b', 'b': 'i'}
	for o, ways := range signatures() {
		for _, way := range ways {
			for place := range len(way) {
				turned := []byte(way)
				turned[place] = other[turned[place]]
				if slices.Contains(ways, string(turned)) {
					continue
				}
				for _, n := range []int64{0, 1} {
					l := filled(string(turned))
					for i := range l {
						l[i].N = n
					}
					refuses(t, o, l, api.ErrType)
				}
			}
		}
	}
	refuses(t, api.ExEq, list(num(1), yes()), api.ErrType)
	refuses(t, api.ExEq, list(no(), num(0)), api.ErrType)
	refuses(t, api.ExNe, list(num(0), yes()), api.ErrType)
	refuses(t, api.ExIf, list(num(1), num(1), num(1)), api.ErrType)
	refuses(t, api.ExIf, list(num(1), yes(), yes()), api.ErrType)
	refuses(t, api.ExIf, list(no(), num(1), yes()), api.ErrType)
	refuses(t, api.ExIf, list(no(), yes(), num(1)), api.ErrType)
	refuses(t, api.ExIf, list(num(0), no(), num(0)), api.ErrType)
}

// P11.1, R1, R2: all numbers of operators at all short lists of values of all kinds.
func TestAllShortLists(t *testing.T) {
	kinds := list(num(0), num(1), num(-1), num(2), num(least), num(greatest), no(), yes(), bit(2), bit(-1), api.Value{}, api.Value{Type: api.TyNone, N: 1}, api.Value{Type: 3}, api.Value{Type: 255, N: least})
	for _, o := range allOps() {
		for count := range 4 {
			eachList(kinds, count, func(l []api.Value) { asTold(t, o, l) })
		}
	}
}

// P11.2: of each type all numbers that tell something.
func TestCheck(t *testing.T) {
	for ty := range math.MaxUint8 + 1 {
		for _, n := range append(edges(), 256, 257, -255, 1<<32+1, 1<<63-1) {
			v := api.Value{Type: api.Type(ty), N: n}
			if got, want := Check(v), mayBe(v); got != want {
				t.Errorf("Check(%v) = %t", v, got)
			}
		}
	}
	for _, v := range list(num(0), num(-1), num(least), num(greatest), yes(), no()) {
		if !Check(v) {
			t.Errorf("%v may be", v)
		}
	}
	for _, v := range wrongValues() {
		if Check(v) {
			t.Errorf("%v may not be", v)
		}
	}
}

// P11.3: as it is written, of each kind of value.
func TestText(t *testing.T) {
	for v, want := range map[api.Value]string{
		num(0): "0", num(1): "1", num(-1): "-1", num(9): "9", num(10): "10", num(-10): "-10", num(1000000): "1000000", num(-1234567890): "-1234567890",
		num(greatest): "9223372036854775807", num(least): "-9223372036854775808", num(least + 1): "-9223372036854775807",
		yes(): "true", no(): "false",
	} {
		if s := Text(v); s != want {
			t.Errorf("Text(%v) = %q, want %q", v, s, want)
		}
	}
	for _, v := range wrongValues() {
		if s := Text(v); s != "" {
			t.Errorf("Text(%v) = %q, want nothing", v, s)
		}
	}
}

// P11.3: digits tell the number again, and have no nought and no plus ahead.
func TestTextOfManyNumbers(t *testing.T) {
	next := chance(3)
	for range 20000 {
		n := int64(next()) >> (next() % 64)
		s := Text(num(n))
		back, err := strconv.ParseInt(s, 10, 64)
		digits := strings.TrimPrefix(s, "-")
		if err != nil || back != n || strings.HasPrefix(s, "-") != (n < 0) || strings.Trim(digits, "0123456789") != "" || n != 0 && digits[0] == '0' {
			t.Errorf("Text of %d = %q", n, s)
		}
	}
}

// P11.4: what is worked out may be, and is of the type that the table says.
func TestWhatIsWorkedOutMayBe(t *testing.T) {
	answers := map[api.Op]api.Type{
		api.ExNeg: api.TyInt, api.ExAdd: api.TyInt, api.ExSub: api.TyInt, api.ExMul: api.TyInt, api.ExDiv: api.TyInt, api.ExMod: api.TyInt,
		api.ExLt: api.TyBool, api.ExLe: api.TyBool, api.ExEq: api.TyBool, api.ExNe: api.TyBool, api.ExNot: api.TyBool, api.ExAnd: api.TyBool, api.ExOr: api.TyBool,
	}
	kinds := list(num(0), num(1), num(-1), num(2), num(7), num(1<<62), num(least), num(greatest), no(), yes())
	for o := range signatures() {
		worked := 0
		eachList(kinds, countOf(o), func(l []api.Value) {
			v, e := Do(o, l)
			if e != api.OK {
				return
			}
			worked++
			want, one := answers[o]
			if !one {
				want = l[1].Type
			}
			if !Check(v) || Text(v) == "" || v.Type != want {
				t.Errorf("Do(%d, %v) = %v, which may not be, or not here", o, l, v)
			}
		})
		if worked == 0 {
			t.Errorf("nothing is worked out by %d", o)
		}
	}
}

// P11.4: how often, times the second one, and what is left, are the first one; less is left than the second one, and of the first one's sign.
func TestHowOftenAndWhatIsLeft(t *testing.T) {
	next := chance(7)
	first, second := edges(), edges()
	for range 300 {
		first = append(first, int64(next())>>(next()%64))
		second = append(second, int64(next())>>(next()%64))
	}
	for _, a := range first {
		for _, b := range second {
			if b == 0 {
				continue
			}
			often, _ := Do(api.ExDiv, list(num(a), num(b)))
			left, _ := Do(api.ExMod, list(num(a), num(b)))
			times, _ := Do(api.ExMul, list(often, num(b)))
			makes(t, api.ExAdd, list(times, left), num(a))
			if new(big.Int).Abs(big.NewInt(left.N)).Cmp(new(big.Int).Abs(big.NewInt(b))) >= 0 {
				t.Errorf("of %d by %d %d is left: too much", a, b, left.N)
			}
			if left.N != 0 && (left.N < 0) != (a < 0) {
				t.Errorf("of %d by %d %d is left: the wrong sign", a, b, left.N)
			}
		}
	}
}

// R4: what is handed in stays as it was, its spare room too, also beside an error.
func TestHandedInStays(t *testing.T) {
	kinds := list(num(5), num(-3), num(0), yes(), no(), bit(2), api.Value{})
	spare := list(num(77), yes(), bit(9))
	for _, o := range allOps() {
		for count := range 4 {
			eachList(kinds, count, func(l []api.Value) {
				whole := slices.Concat(l, spare)
				was := slices.Clone(whole)
				Do(o, whole[:count])
				if !slices.Equal(whole, was) {
					t.Errorf("Do(%d, %v) left %v of %v", o, l, whole, was)
				}
			})
		}
	}
}

// R5: the same call has the same answer, whatever was called between; a list that is changed behind a call changes no answer.
func TestSameAnswer(t *testing.T) {
	for o, ways := range signatures() {
		for _, way := range ways {
			l := filled(way)
			first, e := Do(o, l)
			was := first
			for i := range l {
				l[i] = api.Value{}
			}
			refuses(t, o, l, api.ErrArg)
			Do(api.ExAdd, list(num(1), num(2)))
			again, f := Do(o, filled(way))
			if first != was || again != was || e != api.OK || f != api.OK {
				t.Errorf("Do(%d, %s): %v, then %v and %v", o, way, was, first, again)
			}
		}
	}
}

// R5: calls at the same time do not disturb each other.
func TestAtTheSameTime(t *testing.T) {
	var group sync.WaitGroup
	shared := list(yes(), num(3), num(4))
	for i := range 8 {
		group.Go(func() {
			for n := range int64(200) {
				a, b := n*int64(i+1)-300, n-100
				for _, o := range []api.Op{api.ExAdd, api.ExMul, api.ExDiv, api.ExMod, api.ExLt, api.ExNe} {
					makes(t, o, list(num(a), num(b)), reckoned(o, a, b))
				}
				makes(t, api.ExIf, shared, num(3))
				makes(t, api.ExSub, shared[1:], num(-1))
				if s := Text(num(a)); s != fmt.Sprint(a) {
					t.Errorf("Text of %d = %q", a, s)
				}
			}
		})
	}
	group.Wait()
}
