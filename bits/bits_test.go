package bits

import (
	"bytes"
	"fmt"
	"math"
	"slices"
	"strconv"
	"strings"
	"sync"
	"testing"

	"belfry/api"
)

// number is one that is put, and of how many bits.
type number struct {
	n    uint64
	bits int
}

// greatest tells the greatest number of so many bits.
func greatest(bits int) uint64 {
	if bits == 64 {
		return math.MaxUint64
	}
	return 1<<uint(bits) - 1
}

// numbers tells numbers that look like chance and are the same in each run.
func numbers(seed uint64, count int) []number {
	next := func() uint64 {
		seed = seed*6364136223846793005 + 1442695040888963407
		return seed>>32 | seed<<32
	}
	l := make([]number, count)
	for i := range l {
		l[i].bits = int(next() % 65)
		l[i].n = next() & greatest(l[i].bits)
	}
	return l
}

// signs tells the bits of a number as signs 0 and 1, so that the bits are held against something that does no shifts.
func signs(n uint64, bits int) string {
	if bits == 0 {
		return ""
	}
	return fmt.Sprintf("%0*b", bits, n)
}

// packed tells the bytes of signs, in the words of P2.2.
func packed(s string) []byte {
	var b []byte
	s += strings.Repeat("0", (8-len(s)%8)%8)
	for ; len(s) > 0; s = s[8:] {
		n, err := strconv.ParseUint(s[:8], 2, 8)
		if err != nil {
			panic(err)
		}
		b = append(b, byte(n))
	}
	return b
}

// unpacked tells the signs of bytes.
func unpacked(b []byte) string {
	var s strings.Builder
	for _, c := range b {
		fmt.Fprintf(&s, "%08b", c)
	}
	return s.String()
}

// put puts numbers that may be.
func put(t *testing.T, w *Writer, l ...number) {
	t.Helper()
	for _, x := range l {
		if e := w.Put(x.n, x.bits); e != api.OK {
			t.Fatalf("Put(%d, %d): %v", x.n, x.bits, e)
		}
	}
}

// holds asks whether a writer has just these bits.
func holds(t *testing.T, what string, w *Writer, s string) {
	t.Helper()
	if w.Len() != len(s) {
		t.Errorf("%s: Len %d, not %d", what, w.Len(), len(s))
	}
	if got, want := w.Bytes(), packed(s); !bytes.Equal(got, want) {
		t.Errorf("%s: Bytes %x, not %x", what, got, want)
	}
}

func TestExamples(t *testing.T) {
	w := New()
	if e, f := w.Put(5, 3), w.Put(1, 2); e != api.OK || f != api.OK || !bytes.Equal(w.Bytes(), []byte{0xa8}) || w.Len() != 5 {
		t.Errorf("Put(5, 3), Put(1, 2): %v %v %x %d", e, f, w.Bytes(), w.Len())
	}
	w = New()
	for _, c := range []struct {
		number
		want api.Errno
	}{{number{8, 3}, api.ErrArg}, {number{0, 65}, api.ErrArg}, {number{0, -1}, api.ErrArg}, {number{0, 0}, api.OK}} {
		if e := w.Put(c.n, c.bits); e != c.want {
			t.Errorf("Put(%d, %d): %v, not %v", c.n, c.bits, e, c.want)
		}
	}
	holds(t, "the refused ones and none", w, "")
	for _, c := range []struct {
		at, bits int
		n        uint64
		e        api.Errno
	}{{0, 3, 5, api.OK}, {3, 2, 1, api.OK}, {6, 3, 0, api.ErrShort}, {-1, 1, 0, api.ErrArg}, {8, 0, 0, api.OK}} {
		if n, e := Get([]byte{0xa8}, c.at, c.bits); n != c.n || e != c.e {
			t.Errorf("Get(a8, %d, %d): %d %v, not %d %v", c.at, c.bits, n, e, c.n, c.e)
		}
	}
}

// P2.1: New.
func TestNewHasNoBits(t *testing.T) {
	w := New()
	if w == nil {
		t.Fatal("no writer")
	}
	holds(t, "New", w, "")
	if len(w.Bytes()) != 0 {
		t.Errorf("Bytes %x", w.Bytes())
	}
}

// P2.1, R3: a writer that is nil, and one that no call made; ErrNil goes ahead of ErrArg.
func TestNotThere(t *testing.T) {
	var none *Writer
	for what, w := range map[string]*Writer{"nil": none, "zero": {}, "new": new(Writer)} {
		for range 2 {
			for _, x := range []number{{0, 0}, {5, 3}, {8, 3}, {0, -1}, {0, 65}, {math.MaxUint64, 64}} {
				if e := w.Put(x.n, x.bits); e != api.ErrNil {
					t.Errorf("%s: Put(%d, %d): %v", what, x.n, x.bits, e)
				}
			}
			if w.Len() != 0 || len(w.Bytes()) != 0 {
				t.Errorf("%s: %d bits, %x", what, w.Len(), w.Bytes())
			}
		}
	}
}

// P2.1: of each width, nought and the greatest number are put, and the one above is not.
func TestPutWidths(t *testing.T) {
	for bits := range 65 {
		for ahead := range 9 {
			what := fmt.Sprintf("%d bits behind %d", bits, ahead)
			w := New()
			put(t, w, number{greatest(ahead), ahead})
			s := signs(greatest(ahead), ahead)
			if bits < 64 {
				for _, n := range []uint64{1 << uint(bits), 1<<uint(bits) + 1, 1 << 63, math.MaxUint64} {
					if e := w.Put(n, bits); e != api.ErrArg {
						t.Errorf("%s: Put(%d): %v", what, n, e)
					}
					holds(t, what+": refused", w, s)
				}
			}
			for _, n := range []uint64{greatest(bits), 0, greatest(bits) >> 1, greatest(bits) / 3} {
				put(t, w, number{n, bits})
				s += signs(n, bits)
				holds(t, what, w, s)
			}
		}
	}
}

// P2.1: widths that may not be, of any number.
func TestPutNoWidth(t *testing.T) {
	w := New()
	put(t, w, number{0x15, 5})
	for _, bits := range []int{-1, -2, -8, -63, -64, -65, 65, 66, 127, 128, 256, 1 << 32, 1<<32 + 3, -1 << 32, math.MaxInt32, math.MinInt32, math.MaxInt, math.MinInt} {
		for _, n := range []uint64{0, 1, 5, math.MaxUint64} {
			if e := w.Put(n, bits); e != api.ErrArg {
				t.Errorf("Put(%d, %d): %v", n, bits, e)
			}
			holds(t, "refused", w, "10101")
		}
	}
}

// P2.1, R2: a Put that is refused leaves no trace in what is put behind it.
func TestRefusedLeavesNoTrace(t *testing.T) {
	w, s := New(), ""
	for i, x := range numbers(1, 300) {
		for _, wrong := range []number{{x.n, -1}, {x.n, 65}, {2, 1}, {1, 0}, {1 << 63, 63}} {
			if e := w.Put(wrong.n, wrong.bits); e != api.ErrArg {
				t.Fatalf("Put(%d, %d): %v", wrong.n, wrong.bits, e)
			}
		}
		put(t, w, x)
		s += signs(x.n, x.bits)
		holds(t, "number "+strconv.Itoa(i), w, s)
	}
}

// P2.1: a number of no bits adds none, wherever it is put.
func TestPutNone(t *testing.T) {
	w, s := New(), ""
	for range 20 {
		put(t, w, number{0, 0}, number{0, 0})
		holds(t, "none", w, s)
		put(t, w, number{1, 1})
		s += "1"
	}
}

// P2.2: eight bits a byte, the first one highest, with noughts behind, at all lengths.
func TestBytesOfAllLengths(t *testing.T) {
	for count := range 70 {
		w, s := New(), ""
		for i := range count {
			n := uint64(1 - i%5%2)
			put(t, w, number{n, 1})
			s += signs(n, 1)
		}
		holds(t, strconv.Itoa(count), w, s)
		if got, want := len(w.Bytes()), (count+7)/8; got != want {
			t.Errorf("%d bits: %d bytes, not %d", count, got, want)
		}
		ones := New()
		for range count {
			put(t, ones, number{1, 1})
		}
		holds(t, strconv.Itoa(count)+" ones", ones, strings.Repeat("1", count))
	}
}

// P2.2: far more bits than a few.
func TestManyBits(t *testing.T) {
	w := New()
	var s strings.Builder
	for _, x := range numbers(2, 20000) {
		put(t, w, x)
		s.WriteString(signs(x.n, x.bits))
	}
	holds(t, "many", w, s.String())
}

// R4: what Bytes answers is its caller's, spare room too: the writer does not see it changed, and does not change it.
func TestBytesIsNewMemory(t *testing.T) {
	w, s := New(), ""
	for i, x := range numbers(3, 100) {
		first, second := w.Bytes(), w.Bytes()
		spoil(first)
		if !bytes.Equal(second, packed(s)) {
			t.Fatalf("number %d: one answer changes with another", i)
		}
		holds(t, "changed by its caller", w, s)
		put(t, w, x)
		if !bytes.Equal(second, packed(s)) {
			t.Fatalf("number %d: an answer changes with a Put", i)
		}
		s += signs(x.n, x.bits)
		holds(t, "changed by its caller, behind a Put", w, s)
		for _, c := range first[:cap(first)] {
			if c != 0xff {
				t.Fatalf("number %d: a Put writes to an answer", i)
			}
		}
	}
}

// spoil fills a list with its spare room.
func spoil(b []byte) {
	b = b[:cap(b)]
	for i := range b {
		b[i] = 0xff
	}
}

// R5: asking changes nothing, and two writers share nothing.
func TestWritersApart(t *testing.T) {
	l := numbers(4, 100)
	a, b, sa, sb := New(), New(), "", ""
	for i := 0; i+1 < len(l); i += 2 {
		put(t, a, l[i])
		put(t, b, l[i+1])
		sa, sb = sa+signs(l[i].n, l[i].bits), sb+signs(l[i+1].n, l[i+1].bits)
		for range 2 {
			holds(t, "first", a, sa)
			holds(t, "second", b, sb)
		}
	}
	alike := New()
	for i := 0; i < len(l); i += 2 {
		put(t, alike, l[i])
	}
	if !bytes.Equal(a.Bytes(), alike.Bytes()) || a.Len() != alike.Len() {
		t.Error("two writers that were put the same differ")
	}
}

// P2.3: every piece of some bytes.
func TestGetAllPieces(t *testing.T) {
	for _, count := range []int{0, 1, 2, 7, 8, 9, 17} {
		b := make([]byte, count)
		for i, x := range numbers(5, count) {
			b[i] = byte(x.n>>1) ^ byte(0x9d+73*i)
		}
		s := unpacked(b)
		for at := range len(s) + 3 {
			for bits := range 65 {
				n, e := Get(b, at, bits)
				if at+bits > len(s) {
					if n != 0 || e != api.ErrShort {
						t.Fatalf("Get(%x, %d, %d): %d %v, not ErrShort", b, at, bits, n, e)
					}
					continue
				}
				if e != api.OK || signs(n, bits) != s[at:at+bits] || bits == 0 && n != 0 {
					t.Fatalf("Get(%x, %d, %d): %d %v, not %s", b, at, bits, n, e, s[at:at+bits])
				}
			}
		}
	}
}

// P2.3, R2: what may not be goes ahead of what is not there, and a nought stands beside each error.
func TestGetWrong(t *testing.T) {
	full := bytes.Repeat([]byte{0xff}, 16)
	for _, c := range []struct {
		b        []byte
		at, bits int
		want     api.Errno
	}{
		{full, -1, 0, api.ErrArg}, {full, -1, 1, api.ErrArg}, {full, -8, 8, api.ErrArg}, {full, -64, 64, api.ErrArg},
		{full, math.MinInt, 0, api.ErrArg}, {full, math.MinInt, 64, api.ErrArg}, {full, -1 << 32, 1, api.ErrArg},
		{full, 0, -1, api.ErrArg}, {full, 0, 65, api.ErrArg}, {full, 8, -8, api.ErrArg}, {full, 0, 128, api.ErrArg},
		{full, 0, math.MinInt, api.ErrArg}, {full, 0, math.MaxInt, api.ErrArg}, {full, 0, 1 << 32, api.ErrArg}, {full, 0, 1<<32 + 1, api.ErrArg},
		{full, math.MaxInt, math.MaxInt, api.ErrArg}, {full, math.MinInt, math.MinInt, api.ErrArg},
		{full, 1000, 65, api.ErrArg}, {full, 1000, -1, api.ErrArg}, {nil, -1, 1, api.ErrArg}, {nil, 0, 65, api.ErrArg}, {nil, 1, -1, api.ErrArg},
		{full, 128, 1, api.ErrShort}, {full, 127, 2, api.ErrShort}, {full, 65, 64, api.ErrShort}, {full, 129, 0, api.ErrShort},
		{full, math.MaxInt, 0, api.ErrShort}, {full, math.MaxInt, 1, api.ErrShort}, {full, math.MaxInt, 64, api.ErrShort},
		{full, math.MaxInt - 63, 64, api.ErrShort}, {full, math.MaxInt - 64, 64, api.ErrShort}, {full, 1 << 32, 1, api.ErrShort}, {full, 1 << 61, 1, api.ErrShort}, {full, 1 << 62, 64, api.ErrShort},
		{nil, 0, 1, api.ErrShort}, {[]byte{}, 0, 1, api.ErrShort}, {nil, 1, 0, api.ErrShort}, {nil, math.MaxInt, 64, api.ErrShort},
	} {
		if n, e := Get(c.b, c.at, c.bits); n != 0 || e != c.want {
			t.Errorf("Get(%x, %d, %d): %d %v, not %v", c.b, c.at, c.bits, n, e, c.want)
		}
	}
	for _, b := range [][]byte{nil, {}, full} {
		if n, e := Get(b, 8*len(b), 0); n != 0 || e != api.OK {
			t.Errorf("Get(%x, its end, 0): %d %v", b, n, e)
		}
	}
}

// P2.3: a list's spare room has no bits that count, and R4: neither it nor the list is changed.
func TestGetLeavesBytes(t *testing.T) {
	room := bytes.Repeat([]byte{0x5a, 0xc3}, 20)
	was := slices.Clone(room)
	b := room[:9]
	if n, e := Get(b, 71, 1); n != 0 || e != api.OK {
		t.Errorf("the last bit: %d %v", n, e)
	}
	if n, e := Get(b, 71, 2); n != 0 || e != api.ErrShort {
		t.Errorf("one bit of the spare room: %d %v", n, e)
	}
	for at := range 80 {
		for bits := -1; bits < 67; bits++ {
			Get(b, at, bits)
		}
	}
	if !bytes.Equal(room, was) {
		t.Errorf("%x, not %x", room, was)
	}
}

// R5: what Get answers hangs on nothing else, though many ask at once.
func TestGetAtOnce(t *testing.T) {
	b := packed(strings.Repeat("1011000", 32))
	var want []uint64
	for at := range 8*len(b) - 64 {
		n, _ := Get(b, at, 64)
		want = append(want, n)
	}
	var all sync.WaitGroup
	for range 8 {
		all.Go(func() {
			for at, x := range want {
				if n, e := Get(b, at, 64); n != x || e != api.OK {
					t.Errorf("Get at %d: %d %v, not %d", at, n, e, x)
				}
			}
		})
	}
	all.Wait()
}

// P2.4: what is put is got, from where it was put.
func TestPutIsGot(t *testing.T) {
	w := New()
	l := append(numbers(6, 400), number{math.MaxUint64, 64}, number{0, 64}, number{0, 0}, number{1, 1}, number{1 << 63, 64}, number{1, 64})
	var at []int
	for _, x := range l {
		at = append(at, w.Len())
		put(t, w, x)
	}
	b := w.Bytes()
	for i, x := range l {
		if n, e := Get(b, at[i], x.bits); n != x.n || e != api.OK {
			t.Errorf("number %d, at %d: %d %v, not %d of %d bits", i, at[i], n, e, x.n, x.bits)
		}
	}
}

// P2.4: two numbers one behind the other are as one of both, put and got, wherever they begin.
func TestTwoAreAsOne(t *testing.T) {
	for high := range 65 {
		for low := range 65 - high {
			for _, ahead := range []number{{0, 0}, {0x15, 5}, {0xff, 8}} {
				x := number{0x9e3779b97f4a7c15 & greatest(high), high}
				y := number{0xd1b54a32d192ed03 & greatest(low), low}
				both := number{x.n<<uint(low) | y.n, high + low}
				two, one := New(), New()
				put(t, two, ahead, x, y)
				put(t, one, ahead, both)
				if !bytes.Equal(two.Bytes(), one.Bytes()) || two.Len() != one.Len() {
					t.Fatalf("%d and %d bits: %x, not %x", high, low, two.Bytes(), one.Bytes())
				}
				if n, e := Get(two.Bytes(), ahead.bits, both.bits); n != both.n || e != api.OK {
					t.Fatalf("%d and %d bits: one got of two: %x %v, not %x", high, low, n, e, both.n)
				}
				n, e := Get(one.Bytes(), ahead.bits, high)
				m, f := Get(one.Bytes(), ahead.bits+high, low)
				if n != x.n || m != y.n || e != api.OK || f != api.OK {
					t.Fatalf("%d and %d bits: two got of one: %x %v, %x %v", high, low, n, e, m, f)
				}
			}
		}
	}
}

// The functions that tell bits stop where who ranges over them stops.
func TestBitsStop(t *testing.T) {
	count := 0
	for range ofNumber(math.MaxUint64, 64) {
		if count++; count == 3 {
			break
		}
	}
	for range ofBytes([]byte{1, 2, 3}, 5, 19) {
		if count++; count == 7 {
			break
		}
	}
	if count != 7 {
		t.Errorf("%d bits, not 7", count)
	}
}
