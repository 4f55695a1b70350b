package tokens

import (
	"fmt"
	"math"
	"regexp"
	"slices"
	"strconv"
	"strings"
	"sync"
	"testing"
	"unsafe"

	"belfry/api"
)

const (
	languageWords = "stations in at flow default out if then else pre and or not true false int bool"
	allSigns      = "<= == != -> ( ) : ; , = + - * / % <"
	blanks        = " \t\n\r"
)

func w(text string, at int) api.Token { return api.Token{Kind: 1, Text: text, At: at} }
func n(text string, at int) api.Token { return api.Token{Kind: 2, Text: text, At: at} }
func s(text string, at int) api.Token { return api.Token{Kind: 3, Text: text, At: at} }

// one tells that a text is one token, of that kind.
func one(kind uint8, text string) []api.Token { return []api.Token{{Kind: kind, Text: text}} }

// reads asks Read for tokens.
func reads(t *testing.T, text string, want ...api.Token) {
	t.Helper()
	if l, at, e := Read(text); !slices.Equal(l, want) || at != 0 || e != api.OK {
		t.Errorf("Read(%s) = %v, %d, %d, want %v", shown(text), l, at, e, want)
	}
}

// refuses asks Read for ErrForm at a place, and for nothing beside it.
func refuses(t *testing.T, text string, want int) {
	t.Helper()
	if l, at, e := Read(text); len(l) != 0 || at != want || e != api.ErrForm {
		t.Errorf("Read(%s) = %v, %d, %d, want ErrForm at %d", shown(text), l, at, e, want)
	}
}

func shown(text string) string {
	if len(text) > 60 {
		return fmt.Sprintf("%q.. of %d bytes", text[:60], len(text))
	}
	return strconv.Quote(text)
}

var piece = regexp.MustCompile(`^(?:[ \t\n\r]|--[^\n]*|([a-zA-Z][a-zA-Z0-9_]*)|([0-9]+)|(<=|==|!=|->|[():;,=+*/%<-]))`)

// told tells the tokens in the chapter's words, with other means than what it is held against.
func told(text string) (l []api.Token, at int, e api.Errno) {
	if len(text) > 65536 {
		return nil, 0, api.ErrLimit
	}
	for at < len(text) {
		m := piece.FindStringSubmatch(text[at:])
		if m == nil || len(m[2]) > 1 && m[2][0] == '0' {
			return nil, at, api.ErrForm
		}
		for kind := 1; kind <= 3; kind++ {
			if m[kind] != "" {
				l = append(l, api.Token{Kind: uint8(kind), Text: m[kind], At: at})
			}
		}
		at += len(m[0])
	}
	return l, 0, api.OK
}

// asTold holds Read against the chapter's words.
func asTold(t *testing.T, text string) {
	t.Helper()
	l, at, e := Read(text)
	want, wantAt, wantE := told(text)
	if !slices.Equal(l, want) || at != wantAt || e != wantE {
		t.Errorf("Read(%s) = %v, %d, %d, want %v, %d, %d", shown(text), l, at, e, want, wantAt, wantE)
	}
}

// chance tells numbers that look like chance and are the same in each run.
func chance(seed uint64) func() uint64 {
	return func() uint64 {
		seed = seed*6364136223846793005 + 1442695040888963407
		return seed>>32 | seed<<32
	}
}

// P4.1: the chapter's examples.
func TestReadExamples(t *testing.T) {
	reads(t, "a1<=-2 --x", w("a1", 0), s("<=", 2), s("-", 4), n("2", 5))
	refuses(t, "a ! b", 2)
	refuses(t, "01", 0)
	reads(t, "1a_", n("1", 0), w("a_", 1))
	reads(t, "")
}

// P4.1: blanks and comments say nothing.
func TestReadSilence(t *testing.T) {
	for _, text := range []string{
		" ", "\t", "\n", "\r", " \t\n\r \r\n\t", strings.Repeat("\n", 1000),
		"--", "---", "----", "-->", "--x", "--\n", "--x\n", "--x\r\n", "--\r", "--\n--", "--\n--\n", " --x\n\t-- y\n", "--x -- y",
		"-- a + 1 ! ? # 007", "--!", "--\x00", "--\xff\n", "--é\n", "--\xc3\n", "--\xe2\x82\n", "--\xf0\x9f\x94\n", "--\xe2\x82", "--€", "--🔔\n--🔔",
	} {
		reads(t, text)
	}
	reads(t, "--x\na", w("a", 4))
	reads(t, "--x\r\na", w("a", 5))
	reads(t, "a--x\nb", w("a", 0), w("b", 5))
	reads(t, "a--x", w("a", 0))
	reads(t, "a--x\n", w("a", 0))
	reads(t, "a--\nb", w("a", 0), w("b", 4))
	reads(t, "1--\n2", n("1", 0), n("2", 4))
	reads(t, "0--\n0", n("0", 0), n("0", 4))
	reads(t, "--\x00\n1", n("1", 4))
	reads(t, "--x\ra\nb", w("b", 6))
	for _, blank := range blanks {
		b := string(blank)
		reads(t, b+"a"+b+"1"+b+"("+b, w("a", 1), n("1", 3), s("(", 5))
	}
}

// P4.1: a blank is one of four bytes, and none else, of whatever the language's library holds for one.
func TestReadOtherBlanks(t *testing.T) {
	for _, text := range []string{"\v", "\f", "\x85", "\xa0", "\u0085", "\u00a0", "\u2003", "\u2028", "\u3000", "\ufeff", "\x00"} {
		refuses(t, text, 0)
		refuses(t, "a"+text+"b", 1)
	}
}

// P4.1: a comment ends at a byte 10 alone, and there it does.
func TestReadCommentEnds(t *testing.T) {
	for c := range 256 {
		text := "--" + string([]byte{byte(c)}) + "a"
		if c == 10 {
			reads(t, text, w("a", 3))
		} else {
			reads(t, text)
		}
		refuses(t, "--"+string([]byte{byte(c)})+"\n?", 4)
	}
	reads(t, "--\u2028a\u2029b\u0085c\nd", w("d", 14))
}

// P4.1: the limit counts bytes, and goes ahead of what stands in the text.
func TestReadLimit(t *testing.T) {
	const most = api.MaxText
	fill := func(unit string, size int) string { return strings.Repeat(unit, size/len(unit)+1)[:size] }
	reads(t, fill(" ", most))
	reads(t, fill("-", most))
	reads(t, fill("\n--a", most))
	reads(t, "--"+fill("é", most-2))
	reads(t, fill(" ", most-1)+"a", w("a", most-1))
	reads(t, fill("a", most), one(1, fill("a", most))...)
	reads(t, fill("9", most), one(2, fill("9", most))...)
	refuses(t, fill("0", most), 0)
	refuses(t, fill(" ", most-1)+"!", most-1)
	refuses(t, fill(" ", most-1)+"\xff", most-1)
	for _, unit := range []string{"(", "->", "a ", "a1_ ", "12 ", "a+1;", "<=", "-- x\ny "} {
		asTold(t, fill(unit, most))
	}
	for _, text := range []string{
		fill(" ", most+1), fill("a", most+1), fill("9", most+1), fill("(", most+1), fill("-", most+1), fill("!", most+1),
		"!" + fill(" ", most), fill(" ", most) + "!", "00" + fill(" ", most), "--" + fill("é", most), fill("a ", 3*most),
	} {
		if l, at, e := Read(text); len(l) != 0 || at != 0 || e != api.ErrLimit {
			t.Errorf("%s: %d tokens, %d, %d", shown(text), len(l), at, e)
		}
	}
}

// P4.1: each sign by itself, and between what are none.
func TestReadSigns(t *testing.T) {
	for _, x := range strings.Fields(allSigns) {
		reads(t, x, s(x, 0))
		reads(t, "a"+x+"1", w("a", 0), s(x, 1), n("1", 1+len(x)))
		reads(t, "1"+x+"a", n("1", 0), s(x, 1), w("a", 1+len(x)))
		reads(t, "\n"+x+"\t", s(x, 1))
		reads(t, x+" --"+x, s(x, 0))
	}
	for _, x := range []string{"!", ">", "&", "|", "^", "~", "?", ".", "[", "]", "{", "}", "\"", "'", "`", "\\", "@", "#", "$", "_"} {
		refuses(t, x, 0)
		refuses(t, "a "+x, 2)
		refuses(t, "1"+x+"a", 1)
	}
}

// P4.1: each pair of signs; the longer ones go first, and two minus signs are a comment.
func TestReadPairsOfSigns(t *testing.T) {
	grown := map[string][]api.Token{
		"< =":  {s("<=", 0)},
		"< ==": {s("<=", 0), s("=", 2)},
		"= =":  {s("==", 0)},
		"= ==": {s("==", 0), s("=", 2)},
		"- -":  nil,
		"- ->": nil,
	}
	for _, x := range strings.Fields(allSigns) {
		for _, y := range strings.Fields(allSigns) {
			want, ok := grown[x+" "+y]
			if !ok {
				want = []api.Token{s(x, 0), s(y, len(x))}
			}
			reads(t, x+y, want...)
			for _, blank := range blanks {
				reads(t, x+string(blank)+y, s(x, 0), s(y, len(x)+1))
			}
			reads(t, x+" --\n"+y, s(x, 0), s(y, len(x)+4))
		}
	}
	reads(t, "<==", s("<=", 0), s("=", 2))
	reads(t, "===", s("==", 0), s("=", 2))
	reads(t, "!==", s("!=", 0), s("=", 2))
	reads(t, "<<=", s("<", 0), s("<=", 1))
	reads(t, "=!=", s("=", 0), s("!=", 1))
}

// P4.1: a comment, a minus, an arrow.
func TestReadMinus(t *testing.T) {
	reads(t, "-", s("-", 0))
	reads(t, "->", s("->", 0))
	reads(t, "- -", s("-", 0), s("-", 2))
	reads(t, "-\n-", s("-", 0), s("-", 2))
	reads(t, "- ->", s("-", 0), s("->", 2))
	reads(t, "->-", s("->", 0), s("-", 2))
	reads(t, "->--", s("->", 0))
	reads(t, "->->", s("->", 0), s("->", 2))
	reads(t, "<--", s("<", 0))
	reads(t, "a-b", w("a", 0), s("-", 1), w("b", 2))
	reads(t, "a->b", w("a", 0), s("->", 1), w("b", 3))
	reads(t, "a--b", w("a", 0))
	reads(t, "a-->b\n-1", w("a", 0), s("-", 6), n("1", 7))
	refuses(t, "- >", 2)
	refuses(t, "->>", 2)
	refuses(t, "-!", 1)
}

// P4.1: a byte that may not be is told by its place, in bytes; the first one that there is.
func TestReadForm(t *testing.T) {
	for text, at := range map[string]int{
		"!": 0, "! =": 0, "!!=": 0, "a!": 1, "!a": 0, "a != b ! c": 7, "=!": 1, "<!": 1,
		"_": 0, "_a": 0, "1_": 1, "a _b": 2, "a_ _": 3, "(_)": 1, "-_": 1,
		"x >": 2, ">": 0, "=>": 1, "<>": 1, ">=": 0,
		"é": 0, "aé": 1, "a é": 2, "1é": 1, "-é": 1, "a b €": 4, "(🔔)": 1, "--é\né": 5, "--€\n é": 7, "--🔔\n🔔": 7,
		"\xff": 0, "a\xff": 1, "\x80": 0, "a \xc3": 2, "\xc3(": 0, "a\xe2\x82": 1, "--\xff\n \xff": 5, "\xc0\xa0": 0, "\xed\xa0\x80": 0, "\xf4\x90\x80\x80": 0,
		"é!": 0, "a ? !": 2, "a\x00": 1, "a\x7f": 1, "--\n?": 3, "a $ 01": 2, "a 01 $": 2,
		"\u0430": 0, "a\u0301": 1, "\uff11": 0, "1\u0661": 1, "\uff41": 0, "\u017f": 0, "\u212a": 0, "\ufffd": 0,
	} {
		refuses(t, text, at)
	}
}

// P4.1: each byte by itself, and with others about it.
func TestReadEachByte(t *testing.T) {
	for c := range 256 {
		text := string([]byte{byte(c)})
		b := byte(c)
		switch {
		case strings.Contains(blanks, text) && c < 128:
			reads(t, text)
		case 'a' <= b && b <= 'z' || 'A' <= b && b <= 'Z':
			reads(t, text, w(text, 0))
		case '0' <= b && b <= '9':
			reads(t, text, n(text, 0))
		case slices.Contains(strings.Fields(allSigns), text):
			reads(t, text, s(text, 0))
		default:
			refuses(t, text, 0)
			refuses(t, "a1 "+text, 3)
			refuses(t, text+" a1", 0)
		}
		for _, around := range []string{"a", "1", "0", "_", "-", "<", "=", "!", " ", "--", "\n"} {
			asTold(t, around+text)
			asTold(t, text+around)
			asTold(t, around+text+around)
		}
	}
}

// P4.1: numbers.
func TestReadNumbers(t *testing.T) {
	for d := range 10 {
		digit := strconv.Itoa(d)
		reads(t, digit, n(digit, 0))
		refuses(t, "0"+digit, 0)
		refuses(t, "a 0"+digit, 2)
		refuses(t, "1+00"+digit, 2)
		reads(t, "1"+digit, n("1"+digit, 0))
		reads(t, "a0"+digit, w("a0"+digit, 0))
		reads(t, "0 "+digit, n("0", 0), n(digit, 2))
	}
	reads(t, "0a", n("0", 0), w("a", 1))
	reads(t, "0x10", n("0", 0), w("x10", 1))
	reads(t, "12ab3", n("12", 0), w("ab3", 2))
	reads(t, "1a0", n("1", 0), w("a0", 1))
	reads(t, "-0", s("-", 0), n("0", 1))
	reads(t, "100", n("100", 0))
	refuses(t, "0 00a", 2)
	refuses(t, "1 007", 2)
	refuses(t, "1.5", 1)
	refuses(t, "1_000", 1)
	many := strings.Repeat("9876543210", 2000)
	reads(t, many, one(2, many)...)
	reads(t, " "+many+"a", n(many, 1), w("a", 1+len(many)))
	refuses(t, "0"+many, 0)
	reads(t, "9223372036854775808", n("9223372036854775808", 0))
}

// P4.1: words, which are no longer than the text, and those of the language among them.
func TestReadWords(t *testing.T) {
	for _, size := range []int{1, 2, 39, 40, 41, 1000} {
		long := strings.Repeat("n", size)
		reads(t, long, one(1, long)...)
	}
	for _, text := range []string{"a", "Z", "a_", "a__", "a1", "aZ09_z", "A_1_b", "x0001"} {
		reads(t, text, w(text, 0))
	}
	var want []api.Token
	at := 0
	for _, text := range strings.Fields(languageWords) {
		reads(t, text, w(text, 0))
		want = append(want, w(text, at))
		at += len(text) + 1
	}
	reads(t, languageWords, want...)
	reads(t, "a b", w("a", 0), w("b", 2))
	reads(t, "pre1 pre(x)", w("pre1", 0), w("pre", 5), s("(", 8), w("x", 9), s(")", 10))
}

// P4.1: a whole program.
func TestReadProgram(t *testing.T) {
	text := "stations 2; -- two\nin x: int at 1;\nflow y: int at 2 default 0 = 0 -> pre y + x;\nout y;\n"
	reads(t, text,
		w("stations", 0), n("2", 9), s(";", 10),
		w("in", 19), w("x", 22), s(":", 23), w("int", 25), w("at", 29), n("1", 32), s(";", 33),
		w("flow", 35), w("y", 40), s(":", 41), w("int", 43), w("at", 47), n("2", 50), w("default", 52), n("0", 60), s("=", 62),
		n("0", 64), s("->", 66), w("pre", 69), w("y", 73), s("+", 75), w("x", 77), s(";", 78),
		w("out", 80), w("y", 84), s(";", 85))
}

// P4.1, R1: all short texts of what may meet, as the chapter's words tell them.
func TestReadAllShort(t *testing.T) {
	parts := []string{"a", "0", "1", "_", "-", ">", "<", "=", "!", "(", " ", "\n", "é", "\xff"}
	var grow func(text string, more int)
	grow = func(text string, more int) {
		asTold(t, text)
		if more == 0 {
			return
		}
		for _, p := range parts {
			grow(text+p, more-1)
		}
	}
	grow("", 4)
}

// P4.1, R1: texts of any bytes bring no panic, and are answered as the chapter's words tell.
func TestReadAnyBytes(t *testing.T) {
	next := chance(4)
	const often = "aZ_019 \t\n\r--->><<==!!()+;\xc3\xa9"
	for range 20_000 {
		b := make([]byte, next()%40)
		for i := range b {
			if b[i] = often[next()%uint64(len(often))]; next()%50 == 0 {
				b[i] = byte(next())
			}
		}
		asTold(t, string(b))
	}
}

// P4.2: the chapter's examples, and the edges of what a name is.
func TestName(t *testing.T) {
	forty := strings.Repeat("n", api.MaxName)
	for text, want := range map[string]bool{
		"a_1": true, "_a": false, "1": false, "pre": false, "Pre": true, forty + "n": false,
		"": false, "a": true, "Z": true, "a_": true, "_": false, "1a": false, "a1": true,
		forty: true, forty[1:]: true, forty[1:] + "_": true, forty[1:] + "9": true, forty + "_": false, strings.Repeat("n", 100_000): false,
		"_" + forty[1:]: false, "1" + forty[1:]: false, forty[1:] + " ": false, forty[1:] + "-": false,
		" ": false, "a ": false, " a": false, "a b": false, "a\n": false, "\na": false, "a\x00": false, "\x00": false,
		"a-b": false, "a--": false, "a--b": false, "--": false, "a+": false, "(": false, "->": false, "a.b": false,
		"é": false, "aé": false, "éa": false, "a\xff": false, "\xff": false, "a\u0301": false, "\u212a": false, "a\uff11": false,
		strings.Repeat("é", 20): false,
	} {
		if Name(text) != want {
			t.Errorf("Name(%s) is not %t", shown(text), want)
		}
	}
}

// P4.2: none of the language's words, all others beside them.
func TestNameLanguageWords(t *testing.T) {
	all := strings.Fields(languageWords)
	for _, text := range all {
		if Name(text) {
			t.Errorf("Name(%s)", text)
		}
		for _, near := range []string{
			text + "a", text + "s", text + "Z", text + "_", text + "1", "a" + text, "Z" + text, text + text,
			text[:len(text)-1], text[1:], strings.ToUpper(text), strings.ToUpper(text[:1]) + text[1:], text[:len(text)-1] + strings.ToUpper(text[len(text)-1:]),
		} {
			if Name(near) == slices.Contains(all, near) {
				t.Errorf("Name(%s) = %t", near, Name(near))
			}
		}
		for _, wrong := range []string{text + " ", " " + text, text + "-", "_" + text, "1" + text, text + "é"} {
			if Name(wrong) {
				t.Errorf("Name(%q)", wrong)
			}
		}
	}
	for _, text := range []string{"main", "func", "var", "nil", "station", "ins", "ats", "flows", "xor", "mod", "when", "token", languageWords} {
		if Name(text) != (text != languageWords) {
			t.Errorf("Name(%s)", text)
		}
	}
}

// P4.2: all texts of one and of two bytes.
func TestNameShort(t *testing.T) {
	first := regexp.MustCompile(`^[a-zA-Z]$`)
	both := regexp.MustCompile(`^[a-zA-Z][a-zA-Z0-9_]$`)
	for c := range 256 {
		text := string([]byte{byte(c)})
		if Name(text) != first.MatchString(text) {
			t.Errorf("Name(%q) = %t", text, Name(text))
		}
		for d := range 256 {
			text := string([]byte{byte(c), byte(d)})
			want := both.MatchString(text) && !slices.Contains(strings.Fields(languageWords), text)
			if Name(text) != want {
				t.Errorf("Name(%q) = %t", text, Name(text))
			}
		}
	}
}

// P4.3: the chapter's examples, the edges, and texts that are no number.
func TestNumber(t *testing.T) {
	for text, want := range map[string]int64{
		"0": 0, "1": 1, "9": 9, "10": 10, "42": 42, "99": 99, "100": 100, "2147483648": 1 << 31, "4294967296": 1 << 32,
		"999999999999999999": 999999999999999999, "1000000000000000000": 1000000000000000000,
		"9223372036854775806": math.MaxInt64 - 1, "9223372036854775807": math.MaxInt64,
	} {
		if got, e := Number(text); got != want || e != api.OK {
			t.Errorf("Number(%q) = %d, %d", text, got, e)
		}
	}
	for text, want := range map[string]api.Errno{
		"9223372036854775808": api.ErrLimit, "9223372036854775817": api.ErrLimit, "9999999999999999999": api.ErrLimit,
		"10000000000000000000": api.ErrLimit, "18446744073709551615": api.ErrLimit, "18446744073709551616": api.ErrLimit, "18446744073709551617": api.ErrLimit,
		"99999999999999999999": api.ErrLimit, "100000000000000000000": api.ErrLimit, "340282366920938463463374607431768211457": api.ErrLimit,
		strings.Repeat("9", 100_000): api.ErrLimit, "1" + strings.Repeat("0", 100_000): api.ErrLimit,
		"00": api.ErrForm, "": api.ErrForm, "01": api.ErrForm, "09223372036854775807": api.ErrForm, "09223372036854775808": api.ErrForm, strings.Repeat("0", 100_000): api.ErrForm,
		"-1": api.ErrForm, "+1": api.ErrForm, "-0": api.ErrForm, "-": api.ErrForm, "+": api.ErrForm, "-9223372036854775808": api.ErrForm, "+9223372036854775808": api.ErrForm,
		" 1": api.ErrForm, "1 ": api.ErrForm, " ": api.ErrForm, "\t1": api.ErrForm, "1\t": api.ErrForm, "\n1": api.ErrForm, "1\n": api.ErrForm, "\r1": api.ErrForm, "1\r": api.ErrForm, "1 2": api.ErrForm,
		"1a": api.ErrForm, "a": api.ErrForm, "a1": api.ErrForm, "1_": api.ErrForm, "1_0": api.ErrForm, "_1": api.ErrForm, "0x1": api.ErrForm, "0b1": api.ErrForm, "0o7": api.ErrForm, "1e3": api.ErrForm, "1.0": api.ErrForm, "1.": api.ErrForm, "(1)": api.ErrForm,
		"1--": api.ErrForm, "--1": api.ErrForm, "99999999999999999999a": api.ErrForm, "99999999999999999999 ": api.ErrForm, "a99999999999999999999": api.ErrForm,
		"\x00": api.ErrForm, "1\x00": api.ErrForm, "1\xff": api.ErrForm, "\xff1": api.ErrForm, "1é": api.ErrForm, "\u0661": api.ErrForm, "1\uff11": api.ErrForm, "true": api.ErrForm,
	} {
		if got, e := Number(text); got != 0 || e != want {
			t.Errorf("Number(%s) = %d, %d, want error %d", shown(text), got, e, want)
		}
	}
}

// P4.3: all texts of one and of two bytes.
func TestNumberShort(t *testing.T) {
	form := regexp.MustCompile(`^([0-9]|[1-9][0-9])$`)
	check := func(text string) {
		got, e := Number(text)
		if !form.MatchString(text) {
			if got != 0 || e != api.ErrForm {
				t.Errorf("Number(%q) = %d, %d", text, got, e)
			}
		} else if strconv.Itoa(int(got)) != text || e != api.OK {
			t.Errorf("Number(%q) = %d, %d", text, got, e)
		}
	}
	for c := range 256 {
		check(string([]byte{byte(c)}))
		for d := range 256 {
			check(string([]byte{byte(c), byte(d)}))
		}
	}
}

// P4.3: numbers from 0 on, as they are written.
func TestNumberOfMany(t *testing.T) {
	next := chance(5)
	for i := range 64 {
		for range 200 {
			want := int64(next() << 1 >> 1 >> (i % 63))
			if got, e := Number(strconv.FormatInt(want, 10)); got != want || e != api.OK {
				t.Errorf("%d: %d, %d", want, got, e)
			}
			above := next() | 1<<63
			if got, e := Number(strconv.FormatUint(above, 10)); got != 0 || e != api.ErrLimit {
				t.Errorf("%d: %d, %d", above, got, e)
			}
		}
	}
}

// someTokens tells texts of tokens of all kinds, such as grow together where nothing parts them among them.
func someTokens() [][]string {
	all := slices.Concat(strings.Fields(allSigns), strings.Fields(languageWords), []string{"a", "Z_9", "x0", "0", "1", "10", "9223372036854775808", strings.Repeat("n", 41)})
	var l [][]string
	for _, x := range all {
		for _, y := range all {
			l = append(l, []string{x, y})
		}
	}
	next := chance(6)
	for range 200 {
		row := make([]string, next()%30)
		for i := range row {
			row[i] = all[next()%uint64(len(all))]
		}
		l = append(l, row)
	}
	return append(l, all)
}

// placed tells the tokens of texts that have so many bytes between each two.
func placed(texts []string, between int) []api.Token {
	var l []api.Token
	at := 0
	for _, text := range texts {
		l = append(l, api.Token{Kind: kindOf(text[0]), Text: text, At: at})
		at += len(text) + between
	}
	return l
}

func kindOf(first byte) uint8 {
	switch {
	case strings.IndexByte("0123456789", first) >= 0:
		return 2
	case strings.IndexByte(allSigns, first) >= 0:
		return 3
	}
	return 1
}

// P4.4: tokens with a blank between each two are the tokens again; and so with more of what says nothing.
func TestTokensAgain(t *testing.T) {
	for _, texts := range someTokens() {
		for _, between := range []string{" ", "\t", "\n", "\r", "\r\n", " \t\n\r", " --\n", "\n--x! 01 é\xff\n", " -- ->\n\n"} {
			reads(t, strings.Join(texts, between), placed(texts, len(between))...)
		}
	}
}

// P4.4: what is read, written with blanks between, is read as the same; only the places are others.
func TestReadAgain(t *testing.T) {
	next := chance(7)
	const often = "ab_012 \n--><=!=()+;"
	for range 5000 {
		b := make([]byte, next()%30)
		for i := range b {
			b[i] = often[next()%uint64(len(often))]
		}
		l, _, e := Read(string(b))
		if e != api.OK {
			continue
		}
		var texts []string
		for _, x := range l {
			texts = append(texts, x.Text)
		}
		for _, blank := range blanks {
			again, _, e := Read(strings.Join(texts, string(blank)))
			same := slices.EqualFunc(again, l, func(x, y api.Token) bool { return x.Kind == y.Kind && x.Text == y.Text })
			if !same || e != api.OK {
				t.Errorf("%q: %v, again %v, %d", b, l, again, e)
			}
		}
	}
}

// P4.4: words and numbers are parted by what stands between them, and by nothing else.
func TestParted(t *testing.T) {
	reads(t, "ab", w("ab", 0))
	reads(t, "a b", w("a", 0), w("b", 2))
	reads(t, "a1", w("a1", 0))
	reads(t, "a 1", w("a", 0), n("1", 2))
	reads(t, "12", n("12", 0))
	reads(t, "1 2", n("1", 0), n("2", 2))
	reads(t, "1a", n("1", 0), w("a", 1))
	reads(t, "1 a", n("1", 0), w("a", 2))
	reads(t, "a--b\n1", w("a", 0), n("1", 5))
	reads(t, "(a)(1)", s("(", 0), w("a", 1), s(")", 2), s("(", 3), n("1", 4), s(")", 5))
}

// P4.2, P4.3: what may be a name is read as one word, and what is a number as one number.
func TestNamesAndNumbersAreTokens(t *testing.T) {
	next := chance(8)
	const often = "aZ_019 -é"
	for range 20_000 {
		b := make([]byte, next()%5)
		for i := range b {
			b[i] = often[next()%uint64(len(often))]
		}
		text := string(b)
		l, _, _ := Read(text)
		single := len(l) == 1 && l[0].Text == text
		if Name(text) != (single && l[0].Kind == 1 && text != "at") {
			t.Errorf("Name(%q) = %t, read as %v", text, Name(text), l)
		}
		if _, e := Number(text); (e == api.OK) != (single && l[0].Kind == 2) {
			t.Errorf("Number(%q): %d, read as %v", text, e, l)
		}
	}
}

// R2: beside an error there is nothing, whatever was read ahead of it.
func TestNothingBesideErrors(t *testing.T) {
	for text, at := range map[string]int{"a b c !": 6, "1 + 2 * 03": 8, "( ( ( _": 6, "x\xff": 1} {
		refuses(t, text, at)
	}
	if l, at, e := Read(strings.Repeat("a ", api.MaxText)); len(l) != 0 || at != 0 || e != api.ErrLimit {
		t.Errorf("%v, %d, %d", l, at, e)
	}
}

// R4: an answer is new memory: what its caller does to it, and to its spare room, nobody else sees.
func TestAnswersAreNew(t *testing.T) {
	for size := range 40 {
		text := strings.Repeat("a1 <= 7;", size)
		first, _, _ := Read(text)
		second, _, _ := Read(text)
		want, _, _ := told(text)
		for i := range first[:cap(first)] {
			first[:cap(first)][i] = api.Token{Kind: 9, Text: "changed", At: -1}
		}
		_ = append(first[:0], api.Token{Kind: 8})
		if !slices.Equal(second, want) {
			t.Errorf("%d: an answer of Read shares memory: %v", size, second)
		}
		reads(t, text, want...)
	}
}

// R4: a token's text is none of the memory of the text that it was read from, nor of another token's.
func TestTextsAreNew(t *testing.T) {
	text := strings.Clone("stations 12; flow a1 <= -> ( )")
	start := uintptr(unsafe.Pointer(unsafe.StringData(text)))
	l, _, _ := Read(text)
	seen := map[*byte]int{}
	for _, x := range l {
		data := unsafe.StringData(x.Text)
		if at := uintptr(unsafe.Pointer(data)); start <= at && at < start+uintptr(len(text)) {
			t.Errorf("%q shares memory with the text", x.Text)
		}
		if seen[data]++; seen[data] > 1 {
			t.Errorf("%q shares memory with another token's", x.Text)
		}
	}
}

// R4: what is handed in is not kept: when its bytes change, an answer does not.
func TestTextIsNotKept(t *testing.T) {
	b := []byte("abc 123 -> x")
	l, _, _ := Read(unsafe.String(&b[0], len(b)))
	if string(b) != "abc 123 -> x" {
		t.Errorf("Read changed its text: %q", b)
	}
	copy(b, "............")
	if want := []api.Token{w("abc", 0), n("123", 4), s("->", 8), w("x", 11)}; !slices.Equal(l, want) {
		t.Errorf("%v", l)
	}
}

// R5: what is answered hangs on nothing but what is handed in, however many ask at once.
func TestAtOnce(t *testing.T) {
	rows := someTokens()
	var all sync.WaitGroup
	for range 8 {
		all.Go(func() {
			for _, texts := range rows {
				reads(t, strings.Join(texts, " "), placed(texts, 1)...)
				for _, text := range texts {
					inLanguage := slices.Contains(strings.Fields(languageWords), text)
					if Name(text) != (kindOf(text[0]) == 1 && !inLanguage && len(text) <= api.MaxName) {
						t.Errorf("Name(%q)", text)
					}
					if _, e := Number(text); (e == api.ErrForm) != (kindOf(text[0]) != 2) {
						t.Errorf("Number(%q): %d", text, e)
					}
				}
			}
		})
	}
	all.Wait()
}
