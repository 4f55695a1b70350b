package code

import (
	"math"
	"slices"
	"strings"
	"testing"

	"belfry/api"
)

// some tells places of a number that is kept 2 rounds, of yes and no that is not kept, and of a number that is kept as long as may be.
func some() []api.Place {
	return []api.Place{{Name: "a", Type: api.TyInt, Keep: 2}, {Name: "b", Type: api.TyBool}, {Name: "c", Type: api.TyInt, Keep: 4 * api.MaxLate, Far: true, From: 2, Default: 5}}
}

// one is a single instruction.
func one(op api.Op, n int64, ago int) []api.Instr { return []api.Instr{{Op: op, N: n, Ago: ago}} }

// P17.2: places whose Type or Keep may not be, wherever they stand, though no instruction asks for them.
func TestCheckPlaces(t *testing.T) {
	l := code(t, "1")
	for i := range 4 {
		for _, kind := range []api.Type{api.TyNone, 3, 4, 128, 254, 255} {
			no(t, slices.Insert(some(), i, api.Place{Name: "x", Type: kind}), l)
		}
		for _, keep := range []int{math.MinInt, -1 << 32, -4000, -2, -1, 4*api.MaxLate + 1, 4*api.MaxLate + 2, 1 << 32, math.MaxInt} {
			no(t, slices.Insert(some(), i, api.Place{Name: "x", Type: api.TyInt, Keep: keep}), l)
			no(t, slices.Insert(some(), i, api.Place{Name: "x", Type: api.TyBool, Keep: keep}), l)
		}
		for _, keep := range []int{0, 1, api.MaxDeep, api.MaxLate, api.MaxLate + 1, 4*api.MaxLate - 1, 4 * api.MaxLate} {
			leaves(t, slices.Insert(some(), i, api.Place{Name: "x", Type: api.TyBool, Keep: keep}), l, api.TyInt)
		}
	}
	no(t, []api.Place{{}}, l)
	no(t, []api.Place{{}}, nil)
}

// P17.2: all other fields of places, and how many there are, say nothing.
func TestCheckOtherFieldsOfPlaces(t *testing.T) {
	for _, place := range []api.Place{{}, {Name: "pre"}, {Name: "\xff"}, {Far: true}, {From: -1}, {From: math.MaxInt}, {Default: math.MinInt64}, {Far: true, From: 9, Default: 7}} {
		for _, kind := range []api.Type{api.TyInt, api.TyBool} {
			place.Type = kind
			leaves(t, []api.Place{place, place}, code(t, "1@0"), kind)
		}
	}
	leaves(t, slices.Repeat(some(), 1<<16), one(api.ExName, 3<<16-1, 4*api.MaxLate), api.TyInt)
	no(t, slices.Repeat(some(), 1<<16), one(api.ExName, 3<<16, 0))
}

// P17.2: as many instructions as there may be, and one more.
func TestCheckLength(t *testing.T) {
	for _, c := range []struct {
		first, next string
		t           api.Type
	}{{"1", "neg", api.TyInt}, {"true", "not", api.TyBool}, {"1@0", "not", api.TyBool}} {
		for count, ok := range map[int]bool{1: true, 2: true, 200: true, 201: true, 798: true, 799: true, 800: false, 801: false, 5000: false, 1 << 20: false} {
			l := append(code(t, c.first), slices.Repeat(code(t, c.next), count)...)
			want := c.t
			if !ok {
				want = api.TyNone
			}
			leavesOrNo(t, some(), l, want)
		}
	}
	for _, count := range []int{1, 2, 100, 399, 400} { // all values first, then what takes them
		l := slices.Concat(slices.Repeat(code(t, "7"), count), slices.Repeat(code(t, "+"), count-1))
		leaves(t, nil, l, api.TyInt)
	}
	no(t, nil, slices.Concat(slices.Repeat(code(t, "7"), 401), slices.Repeat(code(t, "+"), 400)))
	leaves(t, nil, append(code(t, "7"), slices.Repeat(code(t, "7 +"), 399)...), api.TyInt)
	no(t, nil, append(code(t, "7"), slices.Repeat(code(t, "7 +"), 400)...))
}

// P17.2: N of a number may be any, of yes and no it is 0 or 1.
func TestCheckNumbers(t *testing.T) {
	for _, n := range []int64{math.MinInt64, math.MinInt64 + 1, -1 << 32, -2, -1, 0, 1, 2, 255, 256, 1 << 32, 1<<32 + 1, math.MaxInt64} {
		leaves(t, nil, one(api.ExInt, n, 0), api.TyInt)
		want := api.TyNone
		if n == 0 || n == 1 {
			want = api.TyBool
		}
		leavesOrNo(t, nil, one(api.ExBool, n, 0), want)
	}
}

// P17.2: a place is one of those that there are; its Ago is 0 to its Keep, not to another one's.
func TestCheckNames(t *testing.T) {
	for _, n := range []int64{math.MinInt64, -1 << 32, -3, -2, -1, 3, 4, 255, 256, 1 << 32, 1<<32 + 1, math.MaxInt64} {
		no(t, some(), one(api.ExName, n, 0))
	}
	for n, place := range some() {
		for _, ago := range []int{math.MinInt, -1 << 32, -2, -1, 0, 1, 2, 3, 31, 32, 33, 1000, 3999, 4000, 4001, 1 << 32, math.MaxInt} {
			want := place.Type
			if ago < 0 || ago > place.Keep {
				want = api.TyNone
			}
			leavesOrNo(t, some(), one(api.ExName, int64(n), ago), want)
		}
	}
	no(t, nil, one(api.ExName, 0, 0))
}

// P17.2: Ago of ExThen is 0 to MaxDeep.
func TestCheckThen(t *testing.T) {
	for _, ago := range []int{math.MinInt, -1 << 32, -33, -2, -1, 0, 1, 2, 30, 31, 32, 33, 34, 1000, 1 << 32, math.MaxInt} {
		for before, want := range map[string]api.Type{"1 2": api.TyInt, "true false": api.TyBool} {
			if ago < 0 || ago > api.MaxDeep {
				want = api.TyNone
			}
			leavesOrNo(t, nil, append(code(t, before), one(api.ExThen, 0, ago)...), want)
		}
	}
}

// P17.2: each field that is not named is zero.
func TestCheckFieldsNotNamed(t *testing.T) {
	before := map[api.Op]string{api.ExInt: "", api.ExBool: "", api.ExNot: "true", api.ExAnd: "true true", api.ExOr: "true true", api.ExIf: "true 1 1"}
	for op := api.ExInt; op < api.ExPre; op++ {
		values, ok := before[op]
		if !ok {
			values = "1 1"[:3-2*btoi(op == api.ExNeg)]
		}
		if op == api.ExName {
			continue
		}
		sound := append(code(t, values), api.Instr{Op: op})
		if _, ok := Check(nil, sound); !ok {
			t.Error(op, "may not be")
		}
		for _, odd := range []int{math.MinInt, -1 << 32, -256, -1, 1, 2, 256, 1 << 32, math.MaxInt} {
			if op != api.ExThen {
				no(t, nil, append(code(t, values), api.Instr{Op: op, Ago: odd}))
			}
			if op != api.ExInt && op != api.ExBool {
				no(t, nil, append(code(t, values), api.Instr{Op: op, N: int64(odd)}))
			}
			no(t, nil, append(code(t, values), api.Instr{Op: op, N: int64(odd), Ago: -odd}))
		}
	}
}

func btoi(yes bool) int {
	if yes {
		return 1
	}
	return 0
}

// taken tells, of each operator, the types that it takes, and what it leaves then: i is a number, b is yes or no.
func taken(op api.Op) string {
	switch op {
	case api.ExNeg:
		return "i>i"
	case api.ExNot:
		return "b>b"
	case api.ExAdd, api.ExSub, api.ExMul, api.ExDiv, api.ExMod:
		return "ii>i"
	case api.ExEq, api.ExNe:
		return "ii>b bb>b"
	case api.ExLt, api.ExLe:
		return "ii>b"
	case api.ExAnd, api.ExOr:
		return "bb>b"
	case api.ExIf:
		return "bii>i bbb>b"
	case api.ExThen:
		return "ii>i bb>b"
	}
	return ""
}

// lefts tells what is left of values below, a letter each, by an operator; false, if it may not be.
func lefts(op api.Op, below string) (string, bool) {
	for _, way := range strings.Fields(taken(op)) {
		takes, left, _ := strings.Cut(way, ">")
		if rest, ok := strings.CutSuffix(below, takes); ok {
			return rest + left, true
		}
	}
	return "", false
}

// pushed tells instructions that leave values, a letter each.
func pushed(letters string) []api.Instr {
	var l []api.Instr
	for _, letter := range letters {
		if letter == 'i' {
			l = append(l, api.Instr{Op: api.ExInt, N: 3})
		} else {
			l = append(l, api.Instr{Op: api.ExBool, N: 1})
		}
	}
	return l
}

// piles tells all piles of up to so many values.
func piles(most int) []string {
	l := []string{""}
	for from := 0; most > 0; most-- {
		for _, pile := range l[from:] {
			l = append(l, pile+"i", pile+"b")
			from++
		}
	}
	return l
}

// P17.2: each number for an Op, behind each pile of up to five values: too few of them, and each pair (of ExIf each three) of types; what lies below stays as it is.
func TestCheckOperators(t *testing.T) {
	all := piles(5)
	if len(all) != 63 {
		t.Fatal(all)
	}
	for op := range 256 {
		if op == int(api.ExInt) || op == int(api.ExBool) || op == int(api.ExName) {
			continue
		}
		for _, pile := range all {
			l := append(pushed(pile), api.Instr{Op: api.Op(op)})
			left, ok := lefts(api.Op(op), pile)
			if ok && len(left) == 1 {
				leaves(t, nil, l, map[string]api.Type{"i": api.TyInt, "b": api.TyBool}[left])
			} else {
				no(t, nil, l)
			}
			if ok {
				leaves(t, nil, append(l, gone(left)...), api.TyInt)
			}
		}
	}
}

// gone tells instructions that take just these values away, whichever they are, and leave a number.
func gone(letters string) []api.Instr {
	var l []api.Instr
	for i := len(letters) - 1; i >= 0; i-- {
		l = append(l, pushed(letters[i:i+1])...)
		l = append(l, api.Instr{Op: api.ExEq}) // yes or no
		l = append(l, pushed("ii")...)
		l = append(l, api.Instr{Op: api.ExIf}) // a number
		if i > 0 {
			l = append(l, pushed("i")...)
			l = append(l, api.Instr{Op: api.ExEq})
			l = append(l, pushed(letters[i-1:i])...)
			l = append(l, pushed(letters[i-1:i])...)
			l = append(l, api.Instr{Op: api.ExIf}, api.Instr{Op: api.ExThen})
		}
	}
	return l
}

// P17.2: there is just one value left: not none, not two, not more.
func TestCheckLeft(t *testing.T) {
	for _, pile := range piles(4) {
		want := map[string]api.Type{"i": api.TyInt, "b": api.TyBool}[pile]
		leavesOrNo(t, nil, pushed(pile), want)
		leavesOrNo(t, some(), pushed(pile), want)
	}
	for _, words := range []string{"1 2 3 +", "1 2 + 3", "true 1 2 if 3", "1 2 ->0 true", "0@0 1@0", "1@0 not 1@0"} {
		no(t, some(), code(t, words))
	}
	no(t, some(), nil)
	no(t, some(), []api.Instr{})
	no(t, some(), slices.Repeat(code(t, "1"), 4*api.MaxSize))
}

// P17.2: an operator that finds too few values, though there are enough later; one that may not be, though what it left is taken away again.
func TestCheckInOrder(t *testing.T) {
	for _, words := range []string{
		"+ 1 2", "1 + 2", "neg 1", "1 neg neg + 1", "not true", "->0 1 2", "1 ->0 2", "if true 1 2", "true if 1 2", "true 1 if 2", "== 1 1",
		"true 1 + 1 == true and", "1 true not + 2", "1 not", "true neg", "1 2 and", "true true + 1 <", "true 1 ==", "1 true !=", "1 true ->1", "true 1 true if", "1 1 1 if", "true 0@0 1@0 if",
		"0@3", "0@-1", "1@1", "3@0", "-1@0", "2@4001", "1 2 ->33", "1 2 ->-1", "0@3 0@0 ->0",
	} {
		no(t, some(), code(t, words))
	}
	for words, want := range map[string]api.Type{
		"1 2 +": api.TyInt, "1 neg neg 1 +": api.TyInt, "true not": api.TyBool, "1 2 ->32": api.TyInt, "true 1 2 if": api.TyInt, "1 1 ==": api.TyBool,
		"1@0 0@2 2@4000 if": api.TyInt, "0@0 2@3999 <": api.TyBool, "true 1@0 == 1@0 and": api.TyBool, "1 2 < 3 4 <= or not": api.TyBool, "-5 3 % 2 / 1 * 4 -": api.TyInt, "1@0 1@0 1@0 if": api.TyBool,
	} {
		leaves(t, some(), code(t, words), want)
	}
}
