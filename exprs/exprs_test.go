package exprs

import (
	"fmt"
	"math"
	"slices"
	"strconv"
	"strings"
	"sync"
	"testing"
	"unsafe"

	"belfry/api"
	"belfry/tokens"
)

const (
	languageWords = "stations in at flow default out if then else pre and or not true false int bool"
	allSigns      = "<= == != -> ( ) : ; , = + - * / % <"
	tooMuch       = "9223372036854775808"
)

// binary tells how an operator of two is written, and its rank.
type binary struct {
	op   api.Op
	text string
	rank int
}

var binaries = []binary{
	{api.ExThen, "->", 0}, {api.ExOr, "or", 1}, {api.ExAnd, "and", 2},
	{api.ExEq, "==", 3}, {api.ExNe, "!=", 3}, {api.ExLt, "<", 3}, {api.ExLe, "<=", 3},
	{api.ExAdd, "+", 4}, {api.ExSub, "-", 4},
	{api.ExMul, "*", 5}, {api.ExDiv, "/", 5}, {api.ExMod, "%", 5},
}

// unary tells how an operator of one is written, and ahead of what.
type unary struct {
	op    api.Op
	text  string
	ahead string
}

var unaries = []unary{{api.ExNeg, "-", "-"}, {api.ExNot, "not", "not "}, {api.ExPre, "pre", "pre "}}

var (
	a, b, c = v("a"), v("b"), v("c")
	ifABC   = of(api.ExIf, a, b, c)
)

func v(name string) api.Expr  { return api.Expr{Op: api.ExName, Name: name} }
func n(number int64) api.Expr { return api.Expr{Op: api.ExInt, N: number} }
func yes() api.Expr           { return api.Expr{Op: api.ExBool, N: 1} }
func no() api.Expr            { return api.Expr{Op: api.ExBool} }

func of(op api.Op, parts ...api.Expr) api.Expr { return api.Expr{Op: op, Args: slices.Clone(parts)} }

// same holds two against each other; a list that is empty and one that is nil mean the same.
func same(x, y api.Expr) bool {
	return x.Op == y.Op && x.N == y.N && x.Name == y.Name && slices.EqualFunc(x.Args, y.Args, same)
}

// zero: is there nothing?
func zero(x api.Expr) bool { return x.Op == 0 && x.N == 0 && x.Name == "" && x.Args == nil }

func list(t *testing.T, s string) []api.Token {
	t.Helper()
	l, at, e := tokens.Read(s)
	if e != api.OK {
		t.Fatalf("%.60q: %d at %d", s, e, at)
	}
	return l
}

// reads asks Parse of a whole text for what is worked out and the place behind it.
func reads(t *testing.T, s string, next int, want api.Expr) {
	t.Helper()
	if x, got, e := Parse(list(t, s), 0); !same(x, want) || got != next || e != api.OK {
		t.Errorf("Parse(%.60q) = %v, %d, %d, want %v, %d", s, x, got, e, want, next)
	}
}

// refuses asks Parse of a text for an error and its place, and for nothing beside them.
func refuses(t *testing.T, s string, at int, want api.Errno) {
	t.Helper()
	if x, got, e := Parse(list(t, s), 0); !zero(x) || got != at || e != want {
		t.Errorf("Parse(%.60q) = %v, %d, %d, want error %d at %d", s, x, got, e, want, at)
	}
}

// writes asks Text for a text, and Parse of that for what was written.
func writes(t *testing.T, x api.Expr, want string) {
	t.Helper()
	if s, e := Text(x); s != want || e != api.OK {
		t.Errorf("Text(%v) = %.100q, %d, want %.100q", x, s, e, want)
	}
	reads(t, want, len(list(t, want)), x)
	if !Check(x) {
		t.Errorf("Check(%v) is false", x)
	}
}

// mayNot asks Text and Check to say no.
func mayNot(t *testing.T, x api.Expr) {
	t.Helper()
	if s, e := Text(x); s != "" || e != api.ErrArg || Check(x) {
		t.Errorf("Text = %.100q, %d, Check = %t of %.200s", s, e, Check(x), fmt.Sprint(x))
	}
}

// chance tells numbers that look like chance and are the same in each run.
func chance(seed uint64) func(below int) int {
	return func(below int) int {
		seed = seed*6364136223846793005 + 1442695040888963407
		return int(seed >> 33 % uint64(below))
	}
}

// grammar reads in the chapter's words, a function for each rank, with other means than what it is held against.
type grammar struct{ l []api.Token }

type outcome struct {
	x    api.Expr
	next int
	e    api.Errno
}

func (g grammar) is(at int, text string) bool {
	if at >= len(g.l) || g.l[at].Text != text {
		return false
	}
	kind := uint8(3)
	if slices.Contains(strings.Fields(languageWords), text) {
		kind = 1
	}
	return g.l[at].Kind == kind
}

func (g grammar) binary(at, rank int) (api.Op, bool) {
	for _, o := range binaries {
		if o.rank == rank && g.is(at, o.text) {
			return o.op, true
		}
	}
	return 0, false
}

func (g grammar) rank(rank, at int) outcome {
	switch rank {
	case 0:
		if g.is(at, "if") {
			return g.row(at, "if", "then", "else")
		}
	case 6:
		for _, o := range unaries {
			if g.is(at, o.text) {
				return g.joined(o.op, nil, g.rank(6, at+1))
			}
		}
	case 7:
		return g.atom(at)
	}
	left := g.rank(rank+1, at)
	for left.e == api.OK {
		op, ok := g.binary(left.next, rank)
		if !ok {
			break
		}
		switch rank {
		case 0:
			return g.joined(op, []api.Expr{left.x}, g.rank(0, left.next+1))
		case 3:
			return g.joined(op, []api.Expr{left.x}, g.rank(4, left.next+1))
		}
		left = g.joined(op, []api.Expr{left.x}, g.rank(rank+1, left.next+1))
	}
	return left
}

func (g grammar) joined(op api.Op, ahead []api.Expr, last outcome) outcome {
	if last.e == api.OK {
		last.x = api.Expr{Op: op, Args: append(ahead, last.x)}
	}
	return last
}

// row reads a part behind each of some words.
func (g grammar) row(at int, words ...string) outcome {
	var parts []api.Expr
	for _, text := range words {
		if !g.is(at, text) {
			return outcome{next: at, e: api.ErrForm}
		}
		o := g.rank(0, at+1)
		if o.e != api.OK {
			return o
		}
		parts, at = append(parts, o.x), o.next
	}
	return outcome{x: of(api.ExIf, parts...), next: at}
}

func (g grammar) atom(at int) outcome {
	switch {
	case at >= len(g.l):
	case g.is(at, "true"):
		return outcome{x: yes(), next: at + 1}
	case g.is(at, "false"):
		return outcome{x: no(), next: at + 1}
	case g.is(at, "("):
		o := g.rank(0, at+1)
		if o.e == api.OK && !g.is(o.next, ")") {
			return outcome{next: o.next, e: api.ErrForm}
		} else if o.e == api.OK {
			o.next++
		}
		return o
	case g.l[at].Kind == 1 && tokens.Name(g.l[at].Text):
		return outcome{x: v(g.l[at].Text), next: at + 1}
	case g.l[at].Kind == 2:
		number, e := tokens.Number(g.l[at].Text)
		if e != api.OK {
			return outcome{next: at, e: e}
		}
		return outcome{x: n(number), next: at + 1}
	}
	return outcome{next: at, e: api.ErrForm}
}

func size(x api.Expr) int {
	all := 1
	for _, part := range x.Args {
		all += size(part)
	}
	return all
}

func deep(x api.Expr) int {
	most := 0
	for _, part := range x.Args {
		most = max(most, deep(part))
	}
	return most + 1
}

// told tells what Parse answers, in the chapter's words.
func told(l []api.Token, from int) outcome {
	if from < 0 || from > len(l) {
		return outcome{e: api.ErrArg}
	}
	o := grammar{l}.rank(0, from)
	if o.e == api.OK && (size(o.x) > 200 || deep(o.x) > 32) {
		return outcome{next: from, e: api.ErrLimit}
	}
	if o.e != api.OK {
		o.x = api.Expr{}
	}
	return o
}

// asTold holds Parse against the chapter's words.
func asTold(t *testing.T, l []api.Token, from int) {
	t.Helper()
	want := told(l, from)
	x, next, e := Parse(l, from)
	if !same(x, want.x) || next != want.next || e != want.e {
		t.Errorf("Parse(%v, %d) = %v, %d, %d, want %v", l, from, x, next, e, want)
	}
}

// grown tells some that may be, at most so deep.
func grown(next func(int) int, deep int) api.Expr {
	if deep == 1 || next(4) == 0 {
		switch next(4) {
		case 0:
			return n([]int64{0, 1, 42, math.MaxInt64}[next(4)])
		case 1:
			return []api.Expr{yes(), no()}[next(2)]
		}
		return v([]string{"a", "b", "x_1", "Pre", strings.Repeat("n", 40)}[next(5)])
	}
	switch next(6) {
	case 0, 1:
		return of(unaries[next(3)].op, grown(next, deep-1))
	case 2:
		return of(api.ExIf, grown(next, deep-1), grown(next, deep-1), grown(next, deep-1))
	}
	return of(binaries[next(len(binaries))].op, grown(next, deep-1), grown(next, deep-1))
}

// some tells many that may be.
func some(seed uint64, count int) []api.Expr {
	next := chance(seed)
	var l []api.Expr
	for len(l) < count {
		if x := grown(next, 1+next(8)); size(x) <= api.MaxSize {
			l = append(l, x)
		}
	}
	return l
}

// leaning tells a sum of that many names, each but one ahead of the others' sum, or behind it.
func leaning(names int, left bool) api.Expr {
	x := a
	for range names - 1 {
		if left {
			x = of(api.ExAdd, x, a)
		} else {
			x = of(api.ExAdd, a, x)
		}
	}
	return x
}

// level tells a sum of that many names, as shallow as it can be.
func level(names int) api.Expr {
	if names == 1 {
		return a
	}
	return of(api.ExAdd, level(names/2), level(names-names/2))
}

// within tells it in that many operators of one.
func within(x api.Expr, count int, op api.Op) api.Expr {
	for range count {
		x = of(op, x)
	}
	return x
}

// P5.1: the chapter's examples.
func TestParseExamples(t *testing.T) {
	reads(t, "a -> b -> c", 5, of(api.ExThen, a, of(api.ExThen, b, c)))
	reads(t, "a - b - c", 5, of(api.ExSub, of(api.ExSub, a, b), c))
	reads(t, "- - a", 3, of(api.ExNeg, of(api.ExNeg, a)))
	reads(t, "1 + 2 * x ; y", 5, of(api.ExAdd, n(1), of(api.ExMul, n(2), v("x"))))
	reads(t, "if a then b else c -> d", 8, of(api.ExIf, a, b, of(api.ExThen, c, v("d"))))
	reads(t, "a < b < c", 3, of(api.ExLt, a, b))
	refuses(t, "1 +", 2, api.ErrForm)
	refuses(t, "1 + if a then b else c", 2, api.ErrForm)
	refuses(t, "then", 0, api.ErrForm)
}

// P5.1: from where it is read, and what an answer tells of places.
func TestParseFrom(t *testing.T) {
	l := list(t, "a + 1 ; not b c")
	for from, want := range []outcome{
		{x: of(api.ExAdd, a, n(1)), next: 3}, {next: 1, e: api.ErrForm}, {x: n(1), next: 3}, {next: 3, e: api.ErrForm},
		{x: of(api.ExNot, b), next: 6}, {x: b, next: 6}, {x: c, next: 7}, {next: 7, e: api.ErrForm},
	} {
		if x, next, e := Parse(l, from); !same(x, want.x) || next != want.next || e != want.e {
			t.Errorf("from %d: %v, %d, %d", from, x, next, e)
		}
	}
	for _, from := range []int{-1, -2, 8, 9, math.MinInt, math.MaxInt} {
		if x, next, e := Parse(l, from); !zero(x) || next != 0 || e != api.ErrArg {
			t.Errorf("from %d: %v, %d, %d", from, x, next, e)
		}
	}
}

// P5.1: no tokens at all; nil and empty mean the same.
func TestParseNothing(t *testing.T) {
	for _, l := range [][]api.Token{nil, {}, list(t, "a")[:0]} {
		for from, want := range map[int]api.Errno{-1: api.ErrArg, 0: api.ErrForm, 1: api.ErrArg, 2: api.ErrArg} {
			if x, next, e := Parse(l, from); !zero(x) || next != 0 || e != want {
				t.Errorf("from %d: %v, %d, %d", from, x, next, e)
			}
		}
	}
}

// P5.1: one token by itself.
func TestParseAtoms(t *testing.T) {
	reads(t, "a", 1, a)
	reads(t, "Pre", 1, v("Pre"))
	reads(t, strings.Repeat("n", 40), 1, v(strings.Repeat("n", 40)))
	refuses(t, strings.Repeat("n", 41), 0, api.ErrForm)
	refuses(t, "a + "+strings.Repeat("n", 41), 2, api.ErrForm)
	reads(t, "0", 1, n(0))
	reads(t, "7", 1, n(7))
	reads(t, "9223372036854775807", 1, n(math.MaxInt64))
	reads(t, "true", 1, yes())
	reads(t, "false", 1, no())
}

// P5.1: each word of the language and each sign, where a part must stand.
func TestParseWherePartsStand(t *testing.T) {
	ahead := []string{"", "(", "((", "-", "not", "pre", "if", "if a then", "if a then b else", "a -> if b then c else", "a + (", "- -", "not pre"}
	for _, o := range binaries {
		ahead = append(ahead, "a "+o.text, "( a "+o.text, "if a "+o.text)
	}
	begins := map[string]int{"(": 1, "-": 1, "not": 1, "pre": 1, "if": 1, "true": 0, "false": 0}
	for _, text := range strings.Fields(languageWords + " " + allSigns) {
		for _, start := range ahead {
			at := len(list(t, start))
			if more, ok := begins[text]; ok && more == 0 {
				asTold(t, list(t, start+" "+text), 0)
			} else if start != "" && text == "if" && !ifMayFollow(start) {
				refuses(t, start+" if a then b else c", at, api.ErrForm)
			} else {
				refuses(t, start+" "+text, at+more, api.ErrForm)
			}
			asTold(t, list(t, start+" "+text+" a"), 0)
			asTold(t, list(t, start+" "+text+" ) then b else c )"), 0)
		}
	}
}

// ifMayFollow: does a text end where any part may stand?
func ifMayFollow(start string) bool {
	words := strings.Fields(start)
	return slices.Contains([]string{"(", "((", "if", "then", "else", "->"}, words[len(words)-1])
}

// P5.1: each word of the language and each sign, where an operator may go on.
func TestParseWhereItGoesOn(t *testing.T) {
	for _, text := range strings.Fields(languageWords + " " + allSigns) {
		goesOn := false
		for _, o := range binaries {
			if o.text == text {
				goesOn = true
				reads(t, "a "+text+" b", 3, of(o.op, a, b))
				reads(t, "( a ) "+text+" b ;", 5, of(o.op, a, b))
				reads(t, "a "+text+" b c", 3, of(o.op, a, b))
				refuses(t, "a "+text, 2, api.ErrForm)
				refuses(t, "a "+text+" ;", 2, api.ErrForm)
				if text != "-" {
					refuses(t, text+" a", 0, api.ErrForm)
				}
			}
		}
		if !goesOn {
			reads(t, "a "+text+" b", 1, a)
			reads(t, "a "+text, 1, a)
			reads(t, "not a "+text+" b", 2, of(api.ExNot, a))
			reads(t, "a + b "+text+" c", 3, of(api.ExAdd, a, b))
		}
	}
}

// P5.1: a token counts by its Kind: another one with an operator's Text is none.
func TestParseKinds(t *testing.T) {
	kinds := []uint8{0, 1, 2, 3, 4, 9, 255}
	tok := func(kind uint8, text string) api.Token { return api.Token{Kind: kind, Text: text} }
	for _, kind := range kinds {
		for _, o := range binaries {
			l := list(t, "a "+o.text+" b")
			right := l[1].Kind
			l[1].Kind = kind
			x, next, e := Parse(l, 0)
			if kind == right {
				continue
			}
			if !same(x, a) || next != 1 || e != api.OK {
				t.Errorf("%d %s: %v, %d, %d", kind, o.text, x, next, e)
			}
		}
		for _, s := range []string{"- a", "not a", "pre a", "( a )", "if a then b else c", "true", "false", "a", "7"} {
			l := list(t, s)
			if l[0].Kind == kind {
				continue
			}
			l[0].Kind = kind
			if x, next, e := Parse(l, 0); !zero(x) || next != 0 || e != api.ErrForm {
				t.Errorf("%d %s: %v, %d, %d", kind, s, x, next, e)
			}
		}
		for s, at := range map[string]int{"( a )": 2, "if a then b else c": 2, "if a then b else": 4} {
			l := list(t, s)
			if l[at].Kind == kind {
				continue
			}
			l[at].Kind = kind
			if x, next, e := Parse(l, 0); !zero(x) || next != at || e != api.ErrForm {
				t.Errorf("%d %s: %v, %d, %d", kind, s, x, next, e)
			}
		}
		for _, text := range []string{"", " ", "a b", "é", "_", "a ", "\x00", strings.Repeat("n", 41)} {
			if x, next, e := Parse([]api.Token{tok(3, "("), tok(kind, text)}, 0); !zero(x) || next != 1 || e != api.ErrForm {
				t.Errorf("%d %q: %v, %d, %d", kind, text, x, next, e)
			}
			if x, next, e := Parse([]api.Token{tok(1, "a"), tok(kind, text), tok(1, "b")}, 0); !same(x, a) || next != 1 || e != api.OK {
				t.Errorf("behind a %d %q: %v, %d, %d", kind, text, x, next, e)
			}
		}
	}
}

// P5.1: where a token began in its text makes no difference.
func TestParseAt(t *testing.T) {
	l := list(t, "if a then b + 1 else (pre c)")
	want, next, _ := Parse(l, 0)
	for i := range l {
		l[i].At = []int{-1, 0, 7, math.MaxInt, math.MinInt}[i%5]
	}
	if x, got, e := Parse(l, 0); !same(x, want) || got != next || e != api.OK {
		t.Errorf("%v, %d, %d", x, got, e)
	}
}

// P5.1: numbers that may not be, and where they stand.
func TestParseNumbers(t *testing.T) {
	refuses(t, tooMuch, 0, api.ErrLimit)
	refuses(t, "( "+tooMuch+" )", 1, api.ErrLimit)
	refuses(t, "- "+tooMuch, 1, api.ErrLimit)
	refuses(t, "a + "+tooMuch, 2, api.ErrLimit)
	refuses(t, "a -> b * "+tooMuch+" + c", 4, api.ErrLimit)
	refuses(t, "if a then "+tooMuch+" else b", 3, api.ErrLimit)
	refuses(t, "if a then b else "+strings.Repeat("9", 1000), 5, api.ErrLimit)
	reads(t, "a "+tooMuch, 1, a)
	reads(t, "- 9223372036854775807", 2, of(api.ExNeg, n(math.MaxInt64)))
	for _, text := range []string{"007", "00", "", "-1", "+1", "a", "true", "1a", " 1", "1 ", "0x1", "1_0", "09223372036854775808"} {
		for from := range 3 {
			l := []api.Token{{Kind: 1, Text: "not"}, {Kind: 1, Text: "not"}, {Kind: 2, Text: text}}
			if x, next, e := Parse(l, from); !zero(x) || next != 2 || e != api.ErrForm {
				t.Errorf("%q: %v, %d, %d", text, x, next, e)
			}
		}
	}
}

// P5.1: the reading ends at the first token that is wrong, be it too much or none that may stand there.
func TestParseFirstFault(t *testing.T) {
	refuses(t, tooMuch+" + )", 0, api.ErrLimit)
	refuses(t, "( "+tooMuch, 1, api.ErrLimit)
	refuses(t, "( ) + "+tooMuch, 1, api.ErrForm)
	refuses(t, "if then "+tooMuch, 1, api.ErrForm)
	refuses(t, strings.Repeat("not ", 40)+")", 40, api.ErrForm)
	refuses(t, strings.Repeat("not ", 40)+tooMuch, 40, api.ErrLimit)
	refuses(t, strings.Repeat("a + ", 300)+")", 600, api.ErrForm)
	refuses(t, strings.Repeat("a + ", 300)+tooMuch, 600, api.ErrLimit)
	refuses(t, "( "+strings.Repeat("- ", 40)+"a", 42, api.ErrForm)
}

// P5.1: each operator of two beside each other one, without brackets, around the first part, the second part, all.
func TestParsePairs(t *testing.T) {
	for _, o := range binaries {
		for _, p := range binaries {
			first := of(p.op, of(o.op, a, b), c)
			second := of(o.op, a, of(p.op, b, c))
			row := "a " + o.text + " b " + p.text + " c"
			reads(t, "(a "+o.text+" b) "+p.text+" c", 7, first)
			reads(t, "a "+o.text+" (b "+p.text+" c)", 7, second)
			switch {
			case o.rank == 3 && p.rank == 3:
				reads(t, row, 3, of(o.op, a, b))
				refuses(t, "("+row+")", 4, api.ErrForm)
			case o.rank > p.rank, o.rank == p.rank && o.rank != 0:
				reads(t, row, 5, first)
				reads(t, "("+row+")", 7, first)
				writes(t, first, row)
			default:
				reads(t, row, 5, second)
				reads(t, "("+row+")", 7, second)
				writes(t, second, row)
			}
		}
	}
}

// P5.2: each operator of two in each place of each other one, with brackets only where they must be.
func TestTextPairs(t *testing.T) {
	for _, o := range binaries {
		for _, p := range binaries {
			inner := "b " + p.text + " c"
			asked := map[int]int{0: 1, 1: 1, 2: 2, 3: 4, 4: 4, 5: 5}[o.rank]
			writes(t, of(o.op, of(p.op, b, c), a), bracketed(inner, p.rank < asked)+" "+o.text+" a")
			asked = map[int]int{0: 0, 1: 2, 2: 3, 3: 4, 4: 5, 5: 6}[o.rank]
			writes(t, of(o.op, a, of(p.op, b, c)), "a "+o.text+" "+bracketed(inner, p.rank < asked))
		}
	}
}

func bracketed(s string, must bool) string {
	if must {
		return "(" + s + ")"
	}
	return s
}

// P5.1, P5.2: operators of rank 6 within one another, within those of two, and of those.
func TestOnes(t *testing.T) {
	for _, o := range unaries {
		writes(t, of(o.op, a), o.ahead+"a")
		writes(t, of(o.op, n(1)), o.ahead+"1")
		writes(t, of(o.op, yes()), o.ahead+"true")
		reads(t, o.text+" (a)", 4, of(o.op, a))
		reads(t, "("+o.text+" a)", 4, of(o.op, a))
		refuses(t, o.text, 1, api.ErrForm)
		refuses(t, o.text+" )", 1, api.ErrForm)
		for _, p := range unaries {
			between := ""
			if o.text == "-" && p.text == "-" {
				between = " "
			}
			writes(t, of(o.op, of(p.op, a)), o.ahead+between+p.ahead+"a")
			reads(t, o.text+" "+p.text+" a", 3, of(o.op, of(p.op, a)))
			reads(t, o.text+"("+p.text+" a)", 5, of(o.op, of(p.op, a)))
			for _, q := range unaries {
				reads(t, o.text+" "+p.text+" "+q.text+" a b", 4, of(o.op, of(p.op, of(q.op, a))))
			}
		}
		for _, p := range binaries {
			writes(t, of(p.op, of(o.op, a), b), o.ahead+"a "+p.text+" b")
			writes(t, of(p.op, a, of(o.op, b)), "a "+p.text+" "+o.ahead+"b")
			writes(t, of(o.op, of(p.op, a, b)), o.ahead+"(a "+p.text+" b)")
		}
	}
	writes(t, of(api.ExNeg, of(api.ExNeg, of(api.ExNeg, a))), "- - -a")
	writes(t, of(api.ExNeg, of(api.ExNot, of(api.ExNeg, a))), "-not -a")
	writes(t, of(api.ExSub, a, of(api.ExNeg, n(1))), "a - -1")
	writes(t, of(api.ExSub, of(api.ExNeg, a), of(api.ExNeg, of(api.ExNeg, b))), "-a - - -b")
	writes(t, of(api.ExNeg, of(api.ExSub, of(api.ExNeg, a), b)), "-(-a - b)")
	writes(t, of(api.ExMod, of(api.ExPre, of(api.ExAdd, a, b)), n(2)), "pre (a + b) % 2")
}

// P5.1, P5.2: an ExIf in each place.
func TestIfs(t *testing.T) {
	const row, inner = "if a then b else c", "(if a then b else c)"
	writes(t, ifABC, row)
	reads(t, "("+row+")", 8, ifABC)
	for _, o := range unaries {
		writes(t, of(o.op, ifABC), o.ahead+inner)
		refuses(t, o.text+" "+row, 1, api.ErrForm)
		writes(t, of(api.ExIf, of(o.op, a), of(o.op, b), of(o.op, c)), "if "+o.ahead+"a then "+o.ahead+"b else "+o.ahead+"c")
	}
	for _, o := range binaries {
		writes(t, of(o.op, ifABC, a), inner+" "+o.text+" a")
		reads(t, row+" "+o.text+" a", 8, of(api.ExIf, a, b, of(o.op, c, a)))
		if o.op == api.ExThen {
			writes(t, of(o.op, a, ifABC), "a -> "+row)
		} else {
			writes(t, of(o.op, a, ifABC), "a "+o.text+" "+inner)
			refuses(t, "a "+o.text+" "+row, 2, api.ErrForm)
		}
		x := of(o.op, a, b)
		s := "a " + o.text + " b"
		writes(t, of(api.ExIf, x, x, x), "if "+s+" then "+s+" else "+s)
	}
	writes(t, of(api.ExIf, ifABC, ifABC, ifABC), "if "+row+" then "+row+" else "+row)
	reads(t, "if (a) then (b) else (c)", 12, ifABC)
	for s, at := range map[string]int{
		"if": 1, "if then": 1, "if a": 2, "if a b": 2, "if a else b": 2, "if a then": 3, "if a then else": 3, "if a then b": 4,
		"if a then b then c": 4, "if a then b else": 5, "if a then b else )": 5, "if (a then b else c)": 3, "if a ) then b else c": 2, "if a , then b else c": 2,
		"if a then (b else c)": 5, "if a < b < c then a else b": 4,
	} {
		refuses(t, s, at, api.ErrForm)
	}
	reads(t, "if a then b else c else d", 6, ifABC)
	reads(t, "if a then b else c then d", 6, ifABC)
	reads(t, "if a then b else if b then c else a", 11, of(api.ExIf, a, b, of(api.ExIf, b, c, a)))
}

// P5.1: brackets that are not closed, that are closed twice, that hold nothing.
func TestParseBrackets(t *testing.T) {
	for s, at := range map[string]int{
		"(": 1, "( a": 2, "((a)": 4, "(a + b": 4, "(a b)": 2, "(a ;": 2, "a + (b": 4, "not (a": 3, "()": 1, "( )": 1, ")": 0, ") a": 0, "(a +)": 3, "((": 2, "(a (b))": 2, "(a < b < c)": 4,
		"(if a then b else c": 7, "(a,": 2,
	} {
		refuses(t, s, at, api.ErrForm)
	}
	reads(t, "(a))", 3, a)
	reads(t, "((a)))", 5, a)
	reads(t, "a)", 1, a)
	reads(t, "(a) (b)", 3, a)
	reads(t, "a (b)", 1, a)
	reads(t, "(a + b)) * c", 5, of(api.ExAdd, a, b))
	reads(t, "((a) + ((b)))", 11, of(api.ExAdd, a, b))
}

// P5.1: brackets that are many make nothing greater and nothing deeper.
func TestParseManyBrackets(t *testing.T) {
	for _, count := range []int{1, 31, 32, 33, 200, 201, 1000, 32000} {
		reads(t, strings.Repeat("(", count)+"a"+strings.Repeat(")", count), 2*count+1, a)
		refuses(t, strings.Repeat("(", count)+"a"+strings.Repeat(")", count-1), 2*count, api.ErrForm)
		refuses(t, strings.Repeat("(", count), count, api.ErrForm)
	}
	s := "a"
	for range 31 {
		s = "not (((" + s + ")))"
	}
	reads(t, s, 7*31+1, within(a, 31, api.ExNot))
	refuses(t, "not "+s, 0, api.ErrLimit)
}

// P5.1, R1: what is nested as often as the document speaks of.
func TestParseNested(t *testing.T) {
	const most = 1 << 16
	for _, start := range []string{"( ", "- ", "not ", "pre ", "a -> ", "a + ( ", "a or ( ", "if ", "if a then ", "if a then b else "} {
		row := list(t, start)
		l := slices.Concat(slices.Repeat(row, most), list(t, "a"))
		closed := strings.HasSuffix(start, "( ")
		if closed {
			l = append(l, slices.Repeat(list(t, ")"), most)...)
		}
		x, next, e := Parse(l, 0)
		switch {
		case start == "( ":
			if !same(x, a) || next != len(l) || e != api.OK {
				t.Errorf("%s: %v, %d, %d", start, x, next, e)
			}
		case start == "if " || start == "if a then ":
			if !zero(x) || next != len(l) || e != api.ErrForm {
				t.Errorf("%s: %v, %d, %d", start, x, next, e)
			}
		case !zero(x) || next != 0 || e != api.ErrLimit:
			t.Errorf("%s: %v, %d, %d", start, x, next, e)
		}
	}
	l := slices.Repeat(list(t, "a +"), 10*most)
	if x, next, e := Parse(l, 2); !zero(x) || next != len(l) || e != api.ErrForm {
		t.Errorf("%v, %d, %d", x, next, e)
	}
	if x, next, e := Parse(append(l, l[0]), 2); !zero(x) || next != 2 || e != api.ErrLimit {
		t.Errorf("%v, %d, %d", x, next, e)
	}
}

// P5.1: what was read is too great, or too deep: with from, wherever that is.
func TestParseLimits(t *testing.T) {
	deepest := []string{
		strings.Repeat("not ", 31) + "a", strings.Repeat("- ", 31) + "1", strings.Repeat("pre ", 31) + "true",
		"a" + strings.Repeat(" + a", 31), "a" + strings.Repeat(" and a", 31), "a" + strings.Repeat(" * a", 31), strings.Repeat("a -> ", 31) + "a",
		strings.Repeat("a < (", 31) + "a" + strings.Repeat(")", 31), strings.Repeat("(", 31) + "a" + strings.Repeat(" == a)", 31),
		strings.Repeat("if a then a else ", 31) + "a", strings.Repeat("if ", 31) + "a" + strings.Repeat(" then a else a", 31),
		"b + (" + strings.Repeat("a -> ", 30) + "a)", "not " + strings.Repeat("- ", 15) + "(a" + strings.Repeat(" - a", 15) + ")",
	}
	for _, s := range deepest {
		for _, ahead := range []string{"", "; ", "a ; ", "( ( ( "} {
			l := list(t, ahead+s+" ;")
			from := len(list(t, ahead))
			if x, next, e := Parse(l, from); deep(x) != 32 || next != len(l)-1 || e != api.OK {
				t.Errorf("%s%s: %d deep, %d, %d", ahead, s, deep(x), next, e)
			}
			for _, over := range []string{"not (" + s + ")", "a -> " + s, "1 + (" + s + ")", "if (" + s + ") then b else c", "if a then b else " + s} {
				l := list(t, ahead+over+" ;")
				if x, next, e := Parse(l, from); !zero(x) || next != from || e != api.ErrLimit {
					t.Errorf("%s%s: %v, %d, %d", ahead, over, x, next, e)
				}
			}
		}
	}
	for _, x := range []api.Expr{of(api.ExNot, level(100)), of(api.ExIf, level(30), level(35), level(36))} {
		s, e := Text(x)
		if size(x) != 200 || e != api.OK {
			t.Fatalf("%d parts: %d", size(x), e)
		}
		reads(t, s, len(list(t, s)), x)
		for _, over := range []string{"not (" + s + ")", "- (" + s + ")", "a -> " + s, "(" + s + ") + 1", "if a then b else " + s} {
			refuses(t, over, 0, api.ErrLimit)
			l := list(t, "; "+over)
			if x, next, e := Parse(l, 1); !zero(x) || next != 1 || e != api.ErrLimit {
				t.Errorf("%v, %d, %d", x, next, e)
			}
		}
	}
}

// P5.1, R1: all short rows of tokens, as the chapter's words tell them.
func TestParseAllShort(t *testing.T) {
	parts := list(t, "a 7 true ( ) - not if then else -> or < + * ; "+tooMuch)
	parts = append(parts, api.Token{Kind: 9, Text: "+"})
	var grow func(l []api.Token, more int)
	grow = func(l []api.Token, more int) {
		asTold(t, l, 0)
		if more == 0 {
			return
		}
		for _, p := range parts {
			grow(append(l, p), more-1)
		}
	}
	grow(nil, 4)
}

// P5.1, R1: rows of any tokens, as the chapter's words tell them.
func TestParseAnyTokens(t *testing.T) {
	next := chance(51)
	likely := list(t, "a a a b 1 ( ( ) ) - not pre if then else -> or and == < + * % true ; "+tooMuch)
	texts := strings.Fields(languageWords + " " + allSigns + " a x_1 0 7 007 é")
	for range 60_000 {
		l := make([]api.Token, next(30))
		for i := range l {
			if l[i] = likely[next(len(likely))]; next(20) == 0 {
				l[i] = api.Token{Kind: uint8(next(5)), Text: texts[next(len(texts))], At: next(9)}
			}
		}
		asTold(t, l, next(len(l)+3)-1)
	}
}

// P5.1, R1: rows that are nearly right, as the chapter's words tell them.
func TestParseNearlyRight(t *testing.T) {
	next := chance(52)
	other := list(t, "a 1 ( ) - not if then else -> or and < + *")
	for _, x := range some(53, 3000) {
		s, _ := Text(x)
		l := list(t, s)
		i := next(len(l))
		switch next(3) {
		case 0:
			l[i] = other[next(len(other))]
		case 1:
			l = slices.Delete(l, i, i+1)
		case 2:
			l = slices.Insert(l, i, other[next(len(other))])
		}
		asTold(t, l, 0)
		asTold(t, l, next(len(l)+1))
	}
}

// P5.2: the chapter's examples.
func TestTextExamples(t *testing.T) {
	writes(t, of(api.ExNeg, of(api.ExNeg, a)), "- -a")
	writes(t, of(api.ExMul, a, of(api.ExAdd, b, n(1))), "a * (b + 1)")
	mayNot(t, n(-1))
	mayNot(t, of(api.ExAdd, a))
}

// P5.2: atoms.
func TestTextAtoms(t *testing.T) {
	writes(t, n(0), "0")
	writes(t, n(1), "1")
	writes(t, n(math.MaxInt64), "9223372036854775807")
	writes(t, yes(), "true")
	writes(t, no(), "false")
	writes(t, a, "a")
	writes(t, v("x_1"), "x_1")
	writes(t, v(strings.Repeat("n", 40)), strings.Repeat("n", 40))
}

// P5.2: where the blanks stand.
func TestTextBlanks(t *testing.T) {
	for _, o := range binaries {
		writes(t, of(o.op, a, b), "a "+o.text+" b")
	}
	writes(t, of(api.ExIf, of(api.ExNot, a), of(api.ExPre, of(api.ExThen, a, b)), of(api.ExNeg, of(api.ExPre, c))), "if not a then pre (a -> b) else -pre c")
	writes(t, of(api.ExAnd, of(api.ExOr, a, b), of(api.ExNot, of(api.ExEq, n(1), of(api.ExNeg, n(0))))), "(a or b) and not (1 == -0)")
}

// P5.3, P5.2: fields that may be and those that may not, of each Op, at the top and in what lies deepest.
func TestFields(t *testing.T) {
	most := strings.Repeat("n", 40)
	parts := func(op api.Op) int {
		switch {
		case op == api.ExNeg, op == api.ExNot, op == api.ExPre:
			return 1
		case op == api.ExIf:
			return 3
		}
		return 2
	}
	for op := range 256 {
		op := api.Op(op)
		for _, count := range []int{0, 1, 2, 3, 4, 5} {
			for _, number := range []int64{math.MinInt64, -1, 0, 1, 2, 3, math.MaxInt64} {
				for _, name := range []string{"", "a", most, most + "n", "pre", "true", "1", "_a", "a b", "é", "-"} {
					x := api.Expr{Op: op, N: number, Name: name, Args: slices.Repeat([]api.Expr{a}, count)}
					isName := slices.Contains([]string{"a", most}, name)
					may := op > api.ExName && op <= api.ExPre && count == parts(op) && number == 0 && name == "" ||
						op == api.ExInt && count == 0 && number >= 0 && name == "" ||
						op == api.ExBool && count == 0 && (number == 0 || number == 1) && name == "" ||
						op == api.ExName && count == 0 && number == 0 && isName
					answers(t, x, may)
					answers(t, within(x, 3, api.ExNot), may)
					answers(t, of(api.ExIf, a, of(api.ExAdd, b, n(1)), of(api.ExThen, c, x)), may)
					answers(t, of(api.ExIf, a, of(api.ExSub, x, b), c), may)
				}
			}
		}
	}
}

// answers asks Check whether it may be, and Text for ErrArg if not.
func answers(t *testing.T, x api.Expr, may bool) {
	t.Helper()
	if Check(x) != may {
		t.Errorf("Check(%v) is not %t", x, may)
	}
	s, e := Text(x)
	if may != (e == api.OK) || may != (s != "") || !may && e != api.ErrArg {
		t.Errorf("Text(%v) = %q, %d", x, s, e)
	}
}

// P5.3, P5.2: a part that may not be, at the 32nd depth and ahead of and behind what may be.
func TestDeepestFields(t *testing.T) {
	for _, x := range []api.Expr{{}, n(-1), v(""), v("if"), {Op: api.ExBool, N: 2}, {Op: api.ExBool, N: -1}, {Op: api.ExPre + 1}, {Op: 255}, {Op: api.ExInt, Name: "a"}, {Op: api.ExName, Name: "a", N: 1}} {
		mayNot(t, x)
		mayNot(t, within(x, 31, api.ExNot))
		mayNot(t, of(api.ExAdd, level(99), x))
		mayNot(t, of(api.ExAdd, x, level(99)))
		mayNot(t, of(api.ExIf, a, x, b))
	}
	writes(t, within(n(0), 31, api.ExPre), strings.Repeat("pre ", 31)+"0")
	for _, x := range []api.Expr{
		{Op: api.ExInt, Args: []api.Expr{}}, {Op: api.ExName, Name: "a", Args: []api.Expr{}}, {Op: api.ExBool, Args: make([]api.Expr, 0, 3)},
	} {
		if !Check(x) {
			t.Errorf("an empty list means the same as none: %v", x)
		}
	}
}

// P5.3, P5.2: how great and how deep it may be.
func TestLimits(t *testing.T) {
	for _, left := range []bool{true, false} {
		answers(t, leaning(31, left), true)
		answers(t, leaning(32, left), true)
		answers(t, leaning(33, left), false)
		answers(t, leaning(100, left), false)
		answers(t, leaning(101, left), false)
	}
	for _, o := range unaries {
		answers(t, within(a, 30, o.op), true)
		answers(t, within(a, 31, o.op), true)
		answers(t, within(a, 32, o.op), false)
		answers(t, within(a, 100_000, o.op), false)
		answers(t, of(o.op, level(100)), true)
		answers(t, of(o.op, of(o.op, level(100))), false)
	}
	answers(t, level(100), true)
	answers(t, level(101), false)
	answers(t, level(100_000), false)
	answers(t, of(api.ExIf, level(66), level(67), of(api.ExNot, level(66))), false)
	answers(t, of(api.ExIf, level(33), level(34), level(34)), true)
	answers(t, of(api.ExIf, level(33), of(api.ExNot, level(34)), level(34)), false)
	answers(t, of(api.ExThen, a, within(a, 30, api.ExNot)), true)
	answers(t, of(api.ExThen, a, within(a, 31, api.ExNot)), false)
	answers(t, of(api.ExThen, within(a, 31, api.ExNot), a), false)
}

// R1: parts that hold themselves are too deep, and parts that are there over and over too many.
func TestEndless(t *testing.T) {
	for op := range 24 {
		for count := 1; count <= 3; count++ {
			ring := make([]api.Expr, count)
			for i := range ring {
				ring[i] = api.Expr{Op: api.Op(op), Args: ring}
			}
			mayNot(t, ring[0])
		}
	}
	x := a
	for range 60 {
		x = of(api.ExAdd, x, x)
	}
	mayNot(t, x)
}

// P5.4: the chapter's example, and others.
func TestRefs(t *testing.T) {
	for s, want := range map[string][]api.Ref{
		"x + pre (x + pre y) + x": {{Name: "x"}, {Name: "x", Ago: 1}, {Name: "y", Ago: 2}},
		"x":                       {{Name: "x"}},
		"x + x * x":               {{Name: "x"}},
		"pre x":                   {{Name: "x", Ago: 1}},
		"pre x + pre x":           {{Name: "x", Ago: 1}},
		"pre x + x":               {{Name: "x", Ago: 1}, {Name: "x"}},
		"pre pre x + pre x + x":   {{Name: "x", Ago: 2}, {Name: "x", Ago: 1}, {Name: "x"}},
		"b + a":                   {{Name: "b"}, {Name: "a"}},
		"a -> pre b":              {{Name: "a"}, {Name: "b", Ago: 1}},
		"if c then b else a":      {{Name: "c"}, {Name: "b"}, {Name: "a"}},
		"if pre (c < b) then -b else not (pre c and pre a)": {{Name: "c", Ago: 1}, {Name: "b", Ago: 1}, {Name: "b"}, {Name: "a", Ago: 1}},
		"pre (a -> pre (b -> pre c)) -> a":                  {{Name: "a", Ago: 1}, {Name: "b", Ago: 2}, {Name: "c", Ago: 3}, {Name: "a"}},
		"pre (pre a + b) + (pre b + a)":                     {{Name: "a", Ago: 2}, {Name: "b", Ago: 1}, {Name: "a"}},
		"1":                                                 nil,
		"pre true":                                          nil,
		"if true then 1 else pre 2 + -3":                    nil,
		strings.Repeat("pre ", 31) + "z":                    {{Name: "z", Ago: 31}},
	} {
		x, _, e := Parse(list(t, s), 0)
		if l := Refs(x); e != api.OK || !slices.Equal(l, want) {
			t.Errorf("Refs(%s) = %v, want %v", s, l, want)
		}
	}
}

// P5.4: of what may not be, too.
func TestRefsOfWhatMayNotBe(t *testing.T) {
	most := strings.Repeat("n", 41)
	for i, row := range []struct {
		x    api.Expr
		want []api.Ref
	}{
		{api.Expr{}, nil},
		{n(-1), nil},
		{api.Expr{Op: api.ExInt, Name: "a"}, nil},
		{api.Expr{Op: api.ExPre, Name: "a"}, nil},
		{api.Expr{Name: "a"}, nil},
		{of(0, a, of(255, b)), []api.Ref{{Name: "a"}, {Name: "b"}}},
		{of(api.ExAdd, a), []api.Ref{{Name: "a"}}},
		{of(api.ExNot, a, b, c, a), []api.Ref{{Name: "a"}, {Name: "b"}, {Name: "c"}}},
		{of(api.ExPre, a, b, of(api.ExPre, a, b)), []api.Ref{{Name: "a", Ago: 1}, {Name: "b", Ago: 1}, {Name: "a", Ago: 2}, {Name: "b", Ago: 2}}},
		{of(api.ExInt, of(api.ExPre, a)), []api.Ref{{Name: "a", Ago: 1}}},
		{v("pre"), []api.Ref{{Name: "pre"}}},
		{v(most), []api.Ref{{Name: most}}},
		{v(""), []api.Ref{{}}},
		{of(api.ExPre, v("")), []api.Ref{{Ago: 1}}},
		{api.Expr{Op: api.ExName, Name: "a", N: 7}, []api.Ref{{Name: "a"}}},
		{api.Expr{Op: api.ExName, Name: "a", Args: []api.Expr{b, a}}, []api.Ref{{Name: "a"}, {Name: "b"}}},
		{within(a, 40, api.ExPre), []api.Ref{{Name: "a", Ago: 40}}},
		{within(a, 1<<16, api.ExPre), []api.Ref{{Name: "a", Ago: 1 << 16}}},
		{leaning(1<<16, false), []api.Ref{{Name: "a"}}},
	} {
		if l := Refs(row.x); !slices.Equal(l, row.want) {
			t.Errorf("%d: %v", i, l)
		}
	}
	var many []api.Expr
	for i := range 200_000 {
		many = append(many, v("n"+strconv.Itoa(i)), v("n"+strconv.Itoa(i/2)))
	}
	l := Refs(of(api.ExAdd, many...))
	for i, r := range l {
		if r.Name != "n"+strconv.Itoa(i) || r.Ago != 0 {
			t.Fatalf("%d: %v", i, r)
		}
	}
	if len(l) != 200_000 {
		t.Errorf("%d names", len(l))
	}
}

// P5.4: in the order in which they are written, at as many instants ago as ExPre lie around them.
func TestRefsOfMany(t *testing.T) {
	for _, x := range some(54, 2000) {
		var want []api.Ref
		var around []api.Op
		var walk func(x api.Expr)
		walk = func(x api.Expr) {
			around = append(around, x.Op)
			ago := 0
			for _, op := range around {
				if op == api.ExPre {
					ago++
				}
			}
			if r := (api.Ref{Name: x.Name, Ago: ago}); x.Op == api.ExName && !slices.Contains(want, r) {
				want = append(want, r)
			}
			for _, part := range x.Args {
				walk(part)
			}
			around = around[:len(around)-1]
		}
		walk(x)
		if l := Refs(x); !slices.Equal(l, want) {
			t.Errorf("Refs(%v) = %v, want %v", x, l, want)
		}
	}
}

// P5.5: what is written is read again, whatever stands behind it that does not go on, and with brackets around it.
func TestAgain(t *testing.T) {
	for _, x := range some(55, 3000) {
		s, e := Text(x)
		if e != api.OK {
			t.Fatalf("Text(%v): %d", x, e)
		}
		count := len(list(t, s))
		for _, behind := range []string{"", ";", ") ;", "then", "else b", "a", "7", "( a )", "not a", "true", ": int", "= 1", ", b", "if a", "at 1", tooMuch} {
			reads(t, s+" "+behind, count, x)
		}
		reads(t, "("+s+")", count+2, x)
		reads(t, "(("+s+")) ; + 1", count+4, x)
		if x.Op == api.ExLt || x.Op == api.ExEq {
			reads(t, s+" < b", count, x)
			reads(t, s+" == b", count, x)
		}
	}
}

// P5.5: brackets around each part make no difference.
func TestBracketsAnywhere(t *testing.T) {
	var all func(x api.Expr) string
	all = func(x api.Expr) string {
		var parts []string
		for _, part := range x.Args {
			parts = append(parts, all(part))
		}
		s, _ := Text(x)
		switch {
		case len(parts) == 3:
			s = "if " + parts[0] + " then " + parts[1] + " else " + parts[2]
		case len(parts) == 2:
			s = parts[0] + " " + binaries[slices.IndexFunc(binaries, func(o binary) bool { return o.op == x.Op })].text + " " + parts[1]
		case len(parts) == 1:
			s = unaries[slices.IndexFunc(unaries, func(o unary) bool { return o.op == x.Op })].text + " " + parts[0]
		}
		return "(" + s + ")"
	}
	for _, x := range some(56, 1000) {
		s := all(x)
		reads(t, s, len(list(t, s)), x)
	}
}

// P5.2: brackets stand only where they must: without any two of them it is read as another one.
func TestBracketsMustBe(t *testing.T) {
	for _, x := range some(57, 3000) {
		s, _ := Text(x)
		l := list(t, s)
		var open []int
		for i, tok := range l {
			switch tok.Text {
			case "(":
				open = append(open, i)
			case ")":
				from := open[len(open)-1]
				open = open[:len(open)-1]
				less := slices.Delete(slices.Delete(slices.Clone(l), i, i+1), from, from+1)
				if y, next, e := Parse(less, 0); e == api.OK && next == len(less) && same(x, y) {
					t.Errorf("%q has brackets at %d that need not be", s, from)
				}
			}
		}
	}
}

// R2: beside an error there is nothing but the place that the chapter names.
func TestNothingBesideErrors(t *testing.T) {
	for s, want := range map[string]outcome{
		"a + b * (c -> ": {next: 7, e: api.ErrForm}, "if a then b else c + " + tooMuch: {next: 7, e: api.ErrLimit},
		strings.Repeat("not ", 32) + "a": {e: api.ErrLimit},
	} {
		refuses(t, s, want.next, want.e)
	}
	for _, from := range []int{-1, 2} {
		if x, next, e := Parse(list(t, "a"), from); !zero(x) || next != 0 || e != api.ErrArg {
			t.Errorf("%v, %d, %d", x, next, e)
		}
	}
	if s, e := Text(of(api.ExAdd, a, n(-1))); s != "" || e != api.ErrArg {
		t.Errorf("%q, %d", s, e)
	}
}

// R2: each field that has no meaning is zero.
func TestFieldsOfAnswers(t *testing.T) {
	var look func(x api.Expr)
	look = func(x api.Expr) {
		if x.Op > api.ExName && (x.N != 0 || x.Name != "") || x.Op <= api.ExName && len(x.Args) != 0 || x.Op != api.ExName && x.Name != "" || x.Op == api.ExName && x.N != 0 {
			t.Errorf("%v", x)
		}
		for _, part := range x.Args {
			look(part)
		}
	}
	for _, x := range some(58, 500) {
		s, _ := Text(x)
		y, _, _ := Parse(list(t, s), 0)
		look(y)
	}
}

// spoil changes all of an answer, and its spare room.
func spoil(x *api.Expr) {
	for i := range x.Args {
		spoil(&x.Args[i])
	}
	for i := range x.Args[:cap(x.Args)] {
		x.Args[:cap(x.Args)][i] = api.Expr{Op: 99, N: -9, Name: "spoiled"}
	}
	*x = api.Expr{}
}

// R4: an answer is new memory: what its caller does to it nobody else sees, nor does one part of it see what is done to another.
func TestAnswersAreNew(t *testing.T) {
	for _, x := range some(59, 500) {
		s, _ := Text(x)
		l := list(t, s)
		first, _, _ := Parse(l, 0)
		second, _, _ := Parse(l, 0)
		if len(first.Args) == 2 {
			spoil(&first.Args[0])
			if !same(first.Args[1], x.Args[1]) {
				t.Errorf("%s: its parts share memory", s)
			}
			first.Args = append(first.Args, a)
		}
		spoil(&first)
		if !same(second, x) {
			t.Errorf("%s: two answers share memory", s)
		}
		refs, again := Refs(x), Refs(x)
		want := slices.Clone(refs)
		for i := range refs[:cap(refs)] {
			refs[:cap(refs)][i] = api.Ref{Name: "spoiled", Ago: -1}
		}
		if !slices.Equal(again, want) || !slices.Equal(Refs(x), want) {
			t.Errorf("%s: two answers of Refs share memory", s)
		}
	}
}

// copied tells the same in memory of its own, with spare room that is filled.
func copied(x api.Expr) api.Expr {
	parts := make([]api.Expr, 0, len(x.Args)+2)
	for _, part := range x.Args {
		parts = append(parts, copied(part))
	}
	spare := parts[:cap(parts)]
	for i := len(parts); i < len(spare); i++ {
		spare[i] = v("spare")
	}
	x.Args = parts
	return x
}

// untouched: is it, with its spare room, as copied made it?
func untouched(x, want api.Expr) bool {
	if !same(x, want) {
		return false
	}
	spare := x.Args[:cap(x.Args)]
	for i := len(x.Args); i < len(spare); i++ {
		if !same(spare[i], v("spare")) {
			return false
		}
	}
	for i, part := range x.Args {
		if !untouched(part, want.Args[i]) {
			return false
		}
	}
	return true
}

// R4: what is handed in stays as it was, its spare room too.
func TestArgumentsStay(t *testing.T) {
	for _, x := range append(some(60, 500), of(api.ExAdd, a), of(api.ExNot, n(-1)), of(api.ExPre, a, b)) {
		mine := copied(x)
		first, _ := Text(mine)
		second, _ := Text(x)
		if Check(mine) != Check(x) || !slices.Equal(Refs(mine), Refs(x)) || first != second || !untouched(mine, x) {
			t.Errorf("%v is changed", x)
		}
	}
	for _, s := range []string{"a + b * c ; d", "(a", "if a then b else c", tooMuch, strings.Repeat("not ", 50) + "a"} {
		l := list(t, s)
		room := append(slices.Clone(l), list(t, "+ spare spare")...)
		want := slices.Clone(room)
		for from := -1; from <= len(l)+1; from++ {
			x, next, e := Parse(room[:len(l)], from)
			y, wantNext, f := Parse(slices.Clip(l), from)
			if !same(x, y) || next != wantNext || e != f {
				t.Errorf("%s from %d: what stands in the spare room is read", s, from)
			}
		}
		if !slices.Equal(room, want) {
			t.Errorf("%s: the tokens are changed", s)
		}
	}
}

// R4: what is handed in is not kept: when it changes, an answer does not.
func TestNothingKept(t *testing.T) {
	name := []byte("abc")
	shared := unsafe.String(&name[0], len(name))
	l := []api.Token{{Kind: 1, Text: shared}, {Kind: 3, Text: "+"}, {Kind: 1, Text: shared}}
	x, _, _ := Parse(l, 0)
	s, _ := Text(v(shared))
	refs := Refs(of(api.ExAdd, v(shared), of(api.ExPre, v(shared))))
	copy(name, "xyz")
	clear(l)
	if !same(x, of(api.ExAdd, v("abc"), v("abc"))) || s != "abc" || !slices.Equal(refs, []api.Ref{{Name: "abc"}, {Name: "abc", Ago: 1}}) {
		t.Errorf("%v, %q, %v", x, s, refs)
	}
}

// R5: what is answered hangs on nothing but what is handed in, however many ask at once.
func TestAtOnce(t *testing.T) {
	all := some(61, 300)
	var group sync.WaitGroup
	for range 8 {
		group.Go(func() {
			for _, x := range all {
				s, e := Text(x)
				l, _, _ := tokens.Read(s)
				y, next, f := Parse(l, 0)
				if e != api.OK || f != api.OK || next != len(l) || !same(x, y) || !Check(x) || !slices.Equal(Refs(x), Refs(y)) {
					t.Errorf("%s: %d, %d", s, e, f)
				}
				if _, next, e := Parse(l[:len(l)-1], 0); e == api.ErrForm && next != len(l)-1 {
					t.Errorf("%s: %d at %d", s, e, next)
				}
			}
		})
	}
	group.Wait()
}
