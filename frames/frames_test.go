package frames

import (
	"bytes"
	"fmt"
	"hash/crc32"
	"math"
	"slices"
	"strconv"
	"strings"
	"sync"
	"testing"

	"belfry/api"
)

var (
	yes = api.Value{Type: api.TyBool, N: 1}
	no  = api.Value{Type: api.TyBool}
)

func number(n int64) api.Value { return api.Value{Type: api.TyInt, N: n} }

// chance tells numbers that look like chance and are the same in each run.
func chance(seed uint64) func() uint64 {
	return func() uint64 {
		seed = seed*6364136223846793005 + 1442695040888963407
		return seed>>32 | seed<<32
	}
}

// packed tells the bytes of signs 0 and 1, with noughts up to a whole byte; it does no shifts, as what it is held against does.
func packed(signs string) []byte {
	var b []byte
	signs += strings.Repeat("0", (8-len(signs)%8)%8)
	for ; len(signs) > 0; signs = signs[8:] {
		n, err := strconv.ParseUint(signs[:8], 2, 8)
		if err != nil {
			panic(err)
		}
		b = append(b, byte(n))
	}
	return b
}

// summed tells bytes with their sum behind, the highest byte first.
func summed(b []byte) []byte {
	s := crc32.ChecksumIEEE(b)
	return append(slices.Clone(b), byte(s>>24), byte(s>>16), byte(s>>8), byte(s))
}

// frameBytes tells a frame's bytes in the chapter's words. Its Station may be any of 4 bits.
func frameBytes(f api.Frame) []byte {
	head := fmt.Sprintf("%04b%032b%08b%016b%012b", f.Station, f.Round, f.Members, f.Mode, len(f.Payload))
	return summed(append(packed(head), f.Payload...))
}

// valueBytes tells values as bytes in the chapter's words.
func valueBytes(l []api.Value) []byte {
	var signs strings.Builder
	for _, v := range l {
		if v.Type == api.TyInt {
			fmt.Fprintf(&signs, "%064b", uint64(v.N))
		} else {
			fmt.Fprintf(&signs, "%b", v.N)
		}
	}
	return packed(signs.String())
}

func typesOf(l []api.Value) []api.Type {
	var types []api.Type
	for _, v := range l {
		types = append(types, v.Type)
	}
	return types
}

// bytesOf tells so many bytes, none of them like its neighbours.
func bytesOf(count int) []byte {
	next := chance(uint64(count))
	b := make([]byte, count)
	for i := range b {
		b[i] = byte(next())
	}
	return b
}

func equal(f, g api.Frame) bool {
	return f.Station == g.Station && f.Round == g.Round && f.Members == g.Members && f.Mode == g.Mode && bytes.Equal(f.Payload, g.Payload)
}

func isZero(f api.Frame) bool { return equal(f, api.Frame{}) }

func mustPut(t *testing.T, f api.Frame) []byte {
	t.Helper()
	b, e := Put(f)
	if e != api.OK {
		t.Fatalf("Put(%+v): %d", f, e)
	}
	return b
}

// refuses asks Get for an error, and for nothing beside it.
func refuses(t *testing.T, b []byte, want api.Errno) {
	t.Helper()
	if f, e := Get(b); !isZero(f) || e != want {
		t.Errorf("Get(%x) = %+v, %d, want error %d", b, f, e, want)
	}
}

// someFrames tells frames with the least and the greatest of each number, and some between.
func someFrames() []api.Frame {
	l := []api.Frame{
		{Station: 1},
		{Station: api.MaxStations},
		{Station: 1, Round: math.MaxUint32},
		{Station: 1, Members: math.MaxUint8},
		{Station: 1, Mode: math.MaxUint16},
		{Station: 1, Round: 1, Members: 1, Mode: 1},
		{Station: 1, Round: 1 << 31, Members: 1 << 7, Mode: 1 << 15},
		{Station: api.MaxStations, Round: math.MaxUint32, Members: math.MaxUint8, Mode: math.MaxUint16, Payload: bytes.Repeat([]byte{255}, 4095)},
	}
	next := chance(3)
	for i := range 40 {
		l = append(l, api.Frame{Station: 1 + int(next()%api.MaxStations), Round: uint32(next()), Members: uint8(next()), Mode: uint16(next()), Payload: bytesOf(i)})
	}
	for _, size := range []int{255, 256, 257, 2047, 2048, 4094, 4095} {
		l = append(l, api.Frame{Station: 5, Round: 6, Payload: bytesOf(size)})
	}
	return l
}

// P3.1: the chapter's examples.
func TestFrameExamples(t *testing.T) {
	f := api.Frame{Station: 1, Round: 2, Members: 3, Mode: 4}
	b := mustPut(t, f)
	want := summed([]byte{0x10, 0, 0, 0, 0x20, 0x30, 0, 0x40, 0})
	if !bytes.Equal(b, want) {
		t.Fatalf("Put: %x, want %x", b, want)
	}
	if g, e := Get(b); !equal(g, f) || e != api.OK {
		t.Errorf("Get: %+v %d", g, e)
	}
	refuses(t, b[:len(b)-1], api.ErrShort)
	refuses(t, append(slices.Clone(b), 0), api.ErrForm)
	changed := slices.Clone(b)
	changed[3] ^= 1
	refuses(t, changed, api.ErrForm)
	if b, e := Put(api.Frame{Station: 9}); len(b) != 0 || e != api.ErrArg {
		t.Errorf("Put(Station 9): %x %d", b, e)
	}
}

// P3.1 and P3.4: a frame's bytes are those of the chapter's words, and what is put is got.
func TestPutIsGot(t *testing.T) {
	for _, f := range someFrames() {
		b := mustPut(t, f)
		if want := frameBytes(f); !bytes.Equal(b, want) {
			t.Errorf("Put(%+v) = %x, want %x", f, b, want)
		}
		if g, e := Get(b); !equal(g, f) || e != api.OK {
			t.Errorf("Get(Put(%+v)) = %+v, %d", f, g, e)
		}
	}
}

// P3.1: only stations that may be are put, only Payloads that are not too long.
func TestPutArg(t *testing.T) {
	for _, n := range []int{0, 9, 15, 16, 17, 1 << 32, 1<<32 + 1, -1, -8, math.MinInt, math.MinInt + 1, math.MaxInt} {
		if b, e := Put(api.Frame{Station: n, Round: 1, Payload: []byte("abc")}); len(b) != 0 || e != api.ErrArg {
			t.Errorf("Station %d: %x %d", n, b, e)
		}
	}
	for n := 1; n <= api.MaxStations; n++ {
		if b := mustPut(t, api.Frame{Station: n}); int(b[0]>>4) != n {
			t.Errorf("Station %d: %x", n, b)
		}
	}
	for size, want := range map[int]api.Errno{0: api.OK, 1: api.OK, 4095: api.OK, 4096: api.ErrArg, 4097: api.ErrArg, 8192: api.ErrArg, 1 << 20: api.ErrArg} {
		b, e := Put(api.Frame{Station: 2, Payload: make([]byte, size)})
		if e != want || e == api.OK && len(b) != 13+size || e != api.OK && len(b) != 0 {
			t.Errorf("Payload of %d: %d bytes, %d", size, len(b), e)
		}
	}
}

// P3.1: an empty Payload is as none.
func TestPutEmptyPayload(t *testing.T) {
	a := mustPut(t, api.Frame{Station: 1, Payload: nil})
	b := mustPut(t, api.Frame{Station: 1, Payload: []byte{}})
	if !bytes.Equal(a, b) || len(a) != 13 {
		t.Errorf("%x %x", a, b)
	}
}

// P3.1: bytes that end too early, wherever they end.
func TestGetShort(t *testing.T) {
	refuses(t, nil, api.ErrShort)
	refuses(t, []byte{}, api.ErrShort)
	for _, size := range []int{0, 1, 2, 20, 300} {
		b := frameBytes(api.Frame{Station: 3, Round: 7, Payload: bytesOf(size)})
		for n := range b {
			refuses(t, b[:n], api.ErrShort)
		}
	}
	for _, size := range []int{1, 4094, 4095} {
		b := frameBytes(api.Frame{Station: 3, Payload: bytesOf(size)})
		refuses(t, b[:len(b)-1], api.ErrShort)
	}
	// Too short goes ahead of whatever else is wrong.
	refuses(t, make([]byte, 12), api.ErrShort)
	refuses(t, bytes.Repeat([]byte{255}, 13), api.ErrShort)
	refuses(t, bytes.Repeat([]byte{255}, 13+4094), api.ErrShort)
	refuses(t, bytes.Repeat([]byte{255}, 13+4095), api.ErrForm)
	for told, want := range map[byte]api.Errno{0: api.ErrForm, 1: api.ErrShort} {
		b := make([]byte, 13)
		b[8] = told
		refuses(t, b, want)
	}
}

// P3.1: bytes behind a frame make bytes of none, even if the sum that ends them is right.
func TestGetTooMany(t *testing.T) {
	for _, size := range []int{0, 1, 5, 4094, 4095} {
		b := frameBytes(api.Frame{Station: 3, Payload: bytesOf(size)})
		for _, more := range []int{1, 2, 4, 13, 5000} {
			refuses(t, append(slices.Clone(b), make([]byte, more)...), api.ErrForm)
			refuses(t, append(slices.Clone(b), bytesOf(more)...), api.ErrForm)
		}
		refuses(t, append(slices.Clone(b), b...), api.ErrForm)
		inner := append(slices.Clone(b[:len(b)-4]), 0)
		refuses(t, summed(inner), api.ErrForm)
	}
}

// P3.1: bytes whose sum is right, but whose Station is none that may be.
func TestGetStation(t *testing.T) {
	for n := range 16 {
		f := api.Frame{Station: n, Round: 9, Members: 8, Mode: 7, Payload: []byte("pay")}
		if 1 <= n && n <= api.MaxStations {
			if g, e := Get(frameBytes(f)); !equal(f, g) || e != api.OK {
				t.Errorf("Station %d: %+v %d", n, g, e)
			}
			continue
		}
		refuses(t, frameBytes(f), api.ErrForm)
	}
}

// P3.1: bytes whose Payload is told too short for its bytes, though the sum is right.
func TestGetToldLess(t *testing.T) {
	b := frameBytes(api.Frame{Station: 3, Payload: []byte("abcd")})
	body := slices.Clone(b[:len(b)-4])
	for told := range byte(8) {
		body[8] = told
		switch {
		case told < 4:
			refuses(t, summed(body), api.ErrForm)
		case told > 4:
			refuses(t, summed(body), api.ErrShort)
		}
	}
}

// P3.4: each byte of a frame, changed in any way, makes bytes of none.
func TestOneByteChanged(t *testing.T) {
	for _, size := range []int{0, 1, 40} {
		b := frameBytes(api.Frame{Station: 4, Round: 77, Members: 15, Mode: 4660, Payload: bytesOf(size)})
		for i := range b {
			for by := 1; by < 256; by++ {
				b[i] ^= byte(by)
				if f, e := Get(b); !isZero(f) || e != api.ErrForm && e != api.ErrShort {
					t.Fatalf("byte %d by %d: %+v %d", i, by, f, e)
				}
				b[i] ^= byte(by)
			}
		}
	}
}

// P3.4: two to four bytes side by side, among all but the last four, or among these.
func TestBytesSideBySideChanged(t *testing.T) {
	next := chance(5)
	for _, size := range []int{0, 1, 2, 30, 4095} {
		b := frameBytes(api.Frame{Station: 4, Round: 77, Members: 15, Mode: 4660, Payload: bytesOf(size)})
		tries := 4_000 / len(b)
		end := len(b) - 4
		for from := range b {
			for many := 2; many <= 4; many++ {
				if from < end && from+many > end || from+many > len(b) {
					continue
				}
				for range 1 + tries {
					x := slices.Clone(b)
					by := next() | 1
					for i := range many {
						x[from+i] ^= byte(by >> (8 * i))
					}
					if f, e := Get(x); !isZero(f) || e != api.ErrForm && e != api.ErrShort {
						t.Fatalf("%d bytes from %d by %x: %+v %d", many, from, by, f, e)
					}
				}
			}
		}
	}
}

// P3.2: the chapter's examples.
func TestValueExamples(t *testing.T) {
	for _, c := range []struct {
		l []api.Value
		b []byte
		e api.Errno
	}{
		{[]api.Value{yes, no, yes}, []byte{0xa0}, api.OK},
		{[]api.Value{number(5), yes}, []byte{0, 0, 0, 0, 0, 0, 0, 5, 0x80}, api.OK},
		{[]api.Value{{Type: api.TyBool, N: 2}}, nil, api.ErrArg},
	} {
		if b, e := Payload(c.l); !bytes.Equal(b, c.b) || e != c.e {
			t.Errorf("Payload(%v) = %x, %d", c.l, b, e)
		}
	}
	three := slices.Repeat([]api.Type{api.TyBool}, 3)
	for _, c := range []struct {
		b     []byte
		types []api.Type
		l     []api.Value
		e     api.Errno
	}{
		{[]byte{0xa0}, three, []api.Value{yes, no, yes}, api.OK},
		{[]byte{0xa0}, three[:2], nil, api.ErrForm},
		{[]byte{0xa0, 0}, three, nil, api.ErrForm},
	} {
		if l, e := Values(c.b, c.types); !slices.Equal(l, c.l) || e != c.e {
			t.Errorf("Values(%x, %v) = %v, %d", c.b, c.types, l, e)
		}
	}
}

// someValues tells lists of values of both types, in any order.
func someValues() [][]api.Value {
	least, greatest := number(math.MinInt64), number(math.MaxInt64)
	l := [][]api.Value{
		nil, {},
		{yes}, {no}, {least}, {greatest}, {number(0)}, {number(-1)},
		{least, greatest}, {yes, least}, {no, greatest}, {least, yes}, {greatest, no, number(-1)},
		slices.Repeat([]api.Value{yes}, 7), slices.Repeat([]api.Value{yes}, 8), slices.Repeat([]api.Value{yes}, 9),
		slices.Repeat([]api.Value{number(-2)}, 511),
		slices.Repeat([]api.Value{yes}, 8*4095),
	}
	next := chance(11)
	for i := range 100 {
		var some []api.Value
		for range i {
			switch n := next(); n % 3 {
			case 0:
				some = append(some, yes)
			case 1:
				some = append(some, no)
			default:
				some = append(some, number(int64(next())))
			}
		}
		l = append(l, some)
	}
	return l
}

// P3.2, P3.3, P3.4: values as bytes are those of the chapter's words, what is put is got, and Bits counts them.
func TestPayloadIsValues(t *testing.T) {
	for _, l := range someValues() {
		types := typesOf(l)
		b, e := Payload(l)
		if want := valueBytes(l); !bytes.Equal(b, want) || e != api.OK {
			t.Errorf("Payload(%v) = %x, %d, want %x", l, b, e, want)
		}
		if got, e := Values(b, types); !slices.Equal(got, l) || e != api.OK {
			t.Errorf("Values(Payload(%v)) = %v, %d", l, got, e)
		}
		sent := mustPut(t, api.Frame{Station: 1, Payload: b})
		if n := Bits(types); n != 8*len(sent) {
			t.Errorf("Bits of %v: %d, want %d", l, n, 8*len(sent))
		}
	}
}

// P3.2: a value that may not be, wherever it stands, and also where there are too many.
func TestPayloadArg(t *testing.T) {
	many := slices.Repeat([]api.Value{number(1)}, 600)
	for _, v := range []api.Value{
		{}, {N: 1}, {Type: 3}, {Type: 3, N: 1}, {Type: 255, N: 1},
		{Type: api.TyBool, N: 2}, {Type: api.TyBool, N: 3}, {Type: api.TyBool, N: -1}, {Type: api.TyBool, N: 256},
		{Type: api.TyBool, N: 1 << 32}, {Type: api.TyBool, N: math.MinInt64}, {Type: api.TyBool, N: math.MinInt64 + 1}, {Type: api.TyBool, N: math.MaxInt64},
	} {
		for _, l := range [][]api.Value{
			{v}, {v, yes}, {yes, v}, {number(1), v, no},
			append([]api.Value{v}, many...), append(slices.Clone(many), v),
		} {
			if b, e := Payload(l); len(b) != 0 || e != api.ErrArg {
				t.Errorf("%v among %d: %x %d", v, len(l), b, e)
			}
		}
	}
}

// P3.2: as many bytes as may be, and one more.
func TestPayloadLimit(t *testing.T) {
	full := slices.Repeat([]api.Value{number(-1)}, 511) // 4088 bytes
	with := func(more int) []api.Value {
		return append(slices.Clone(full), slices.Repeat([]api.Value{yes}, more)...)
	}
	for _, c := range []struct {
		l    []api.Value
		size int
		e    api.Errno
	}{
		{with(0), 4088, api.OK},
		{with(7*8 - 1), 4095, api.OK},
		{with(7 * 8), 4095, api.OK},
		{with(7*8 + 1), 0, api.ErrLimit},
		{with(8 * 8), 0, api.ErrLimit},
		{slices.Repeat([]api.Value{number(0)}, 512), 0, api.ErrLimit},
		{slices.Repeat([]api.Value{no}, 8*4095), 4095, api.OK},
		{slices.Repeat([]api.Value{no}, 8*4095+1), 0, api.ErrLimit},
		{slices.Repeat([]api.Value{number(0)}, 100_000), 0, api.ErrLimit},
	} {
		if b, e := Payload(c.l); len(b) != c.size || e != c.e {
			t.Errorf("%d values: %d bytes, %d", len(c.l), len(b), e)
		}
	}
}

// P3.2: a type that is neither of both goes ahead of bytes that may not be.
func TestValuesArg(t *testing.T) {
	for _, other := range []api.Type{api.TyNone, 3, 128, 255} {
		for _, types := range [][]api.Type{{other}, {other, api.TyBool}, {api.TyBool, other}, {api.TyInt, other, api.TyInt}} {
			for _, b := range [][]byte{nil, {0}, {255}, make([]byte, 8), make([]byte, 16), make([]byte, 17), bytesOf(9)} {
				if l, e := Values(b, types); len(l) != 0 || e != api.ErrArg {
					t.Errorf("Values(%x, %v) = %v, %d", b, types, l, e)
				}
			}
		}
	}
}

// P3.2: noughts behind that are no noughts, a byte too many, one too few, none of either.
func TestValuesForm(t *testing.T) {
	for _, l := range someValues() {
		types := typesOf(l)
		b := valueBytes(l)
		told := 0
		for _, v := range l {
			told++
			if v.Type == api.TyInt {
				told += 63
			}
		}
		wrong := [][]byte{append(slices.Clone(b), 0), append(slices.Clone(b), 1), append(slices.Clone(b), make([]byte, 8)...)}
		if len(b) > 0 {
			wrong = append(wrong, b[:len(b)-1], nil)
		}
		for at := told; at < 8*len(b); at++ {
			x := slices.Clone(b)
			x[at/8] |= 128 >> (at % 8)
			wrong = append(wrong, x)
		}
		for _, x := range wrong {
			if got, e := Values(x, types); len(got) != 0 || e != api.ErrForm {
				t.Errorf("Values(%x, %v) = %v, %d", x, types, got, e)
			}
		}
	}
	for _, b := range [][]byte{nil, {}} {
		for _, types := range [][]api.Type{nil, {}} {
			if l, e := Values(b, types); len(l) != 0 || e != api.OK {
				t.Errorf("none: %v %d", l, e)
			}
		}
	}
}

// P3.2: each bit of a value is told.
func TestValuesBits(t *testing.T) {
	types := []api.Type{api.TyBool, api.TyInt, api.TyBool}
	for at := range 66 {
		signs := strings.Repeat("0", at) + "1" + strings.Repeat("0", 65-at)
		want := []api.Value{no, number(0), no}
		switch at {
		case 0:
			want[0] = yes
		case 65:
			want[2] = yes
		default:
			want[1] = number(int64(uint64(1) << (64 - at)))
		}
		if l, e := Values(packed(signs), types); !slices.Equal(l, want) || e != api.OK {
			t.Errorf("bit %d: %v %d", at, l, e)
		}
	}
}

// P3.2: Values sets no limit to how many bytes there are; only Payload does.
func TestValuesOfMany(t *testing.T) {
	l := slices.Repeat([]api.Value{number(-7), yes}, 1000)
	if got, e := Values(valueBytes(l), typesOf(l)); !slices.Equal(got, l) || e != api.OK {
		t.Errorf("%d values, %d", len(got), e)
	}
}

// P3.3: of none, of some, of many, of other types.
func TestBits(t *testing.T) {
	repeat := func(ty api.Type, count int) []api.Type { return slices.Repeat([]api.Type{ty}, count) }
	for _, c := range []struct {
		types []api.Type
		want  int
	}{
		{nil, 104},
		{[]api.Type{}, 104},
		{[]api.Type{api.TyInt, api.TyBool}, 176},
		{[]api.Type{api.TyBool, api.TyInt}, 176},
		{repeat(api.TyInt, 1), 168},
		{repeat(api.TyBool, 1), 112},
		{repeat(api.TyBool, 8), 112},
		{repeat(api.TyBool, 9), 120},
		{repeat(api.TyInt, 511), 104 + 511*64},
		{repeat(api.TyInt, 100_000), 104 + 100_000*64},
		{repeat(api.TyBool, 100_000), 104 + 100_000},
		{repeat(api.TyNone, 9), 104},
		{[]api.Type{3}, 104},
		{[]api.Type{255, api.TyBool, api.TyNone, 4, api.TyInt}, 176},
	} {
		if n := Bits(c.types); n != c.want {
			t.Errorf("Bits of %d: %d, want %d", len(c.types), n, c.want)
		}
	}
}

// roomy tells a list with spare room behind it, and all of it, that both may be looked at afterwards.
func roomy[T any](l []T, fill T) (list, all []T) {
	all = append(slices.Clone(l), slices.Repeat([]T{fill}, 40)...)
	return all[:len(l)], all
}

// R4: what is handed in stays as it was, its spare room too.
func TestArgumentsStay(t *testing.T) {
	payload, allPayload := roomy(bytesOf(11), 0xee)
	keptPayload := slices.Clone(allPayload)
	sent := mustPut(t, api.Frame{Station: 2, Payload: payload})
	if !bytes.Equal(allPayload, keptPayload) {
		t.Error("Put changed the Payload")
	}

	for _, cut := range []int{0, 1} {
		b, allB := roomy(sent[:len(sent)-cut], 0xee)
		keptB := slices.Clone(allB)
		Get(b)
		if !bytes.Equal(allB, keptB) {
			t.Error("Get changed its bytes")
		}
	}

	values, allValues := roomy([]api.Value{yes, number(-9), no}, number(77))
	keptValues := slices.Clone(allValues)
	p, _ := Payload(values)
	if !slices.Equal(allValues, keptValues) {
		t.Error("Payload changed its values")
	}

	types, allTypes := roomy(typesOf(values), 9)
	keptTypes := slices.Clone(allTypes)
	b, allB := roomy(p, 0xee)
	keptB := slices.Clone(allB)
	Values(b, types)
	Bits(types)
	if !slices.Equal(allTypes, keptTypes) || !bytes.Equal(allB, keptB) {
		t.Error("Values or Bits changed what was handed in")
	}
}

// scribble fills a list and its spare room, as a caller may.
func scribble[T any](l []T, fill T) {
	l = l[:cap(l)]
	for i := range l {
		l[i] = fill
	}
}

// R4: an answer is new memory: what its caller does to it, and to its spare room, nobody else sees.
func TestAnswersAreNew(t *testing.T) {
	for _, size := range []int{0, 1, 3, 11, 64} {
		payload := bytesOf(size)
		f := api.Frame{Station: 2, Round: 3, Payload: payload}
		first, second := mustPut(t, f), mustPut(t, f)
		scribble(first, 0xee)
		if !bytes.Equal(second, frameBytes(f)) || !bytes.Equal(payload, bytesOf(size)) {
			t.Error("an answer of Put shares memory")
		}

		g, _ := Get(second)
		h, _ := Get(second)
		scribble(g.Payload, 0xee)
		if !equal(h, f) || !bytes.Equal(second, frameBytes(f)) {
			t.Error("an answer of Get shares memory")
		}
		scribble(second, 0xdd)
		if !equal(h, f) {
			t.Error("an answer of Get keeps its bytes")
		}
	}

	l := []api.Value{yes, number(5)}
	p, _ := Payload(l)
	q, _ := Payload(l)
	scribble(p, 0xee)
	if !bytes.Equal(q, valueBytes(l)) {
		t.Error("an answer of Payload shares memory")
	}
	types := typesOf(l)
	v, _ := Values(q, types)
	w, _ := Values(q, types)
	scribble(v, number(-1))
	if !slices.Equal(w, l) || !bytes.Equal(q, valueBytes(l)) {
		t.Error("an answer of Values shares memory")
	}
	scribble(q, 0xee)
	if !slices.Equal(w, l) {
		t.Error("an answer of Values keeps its bytes")
	}
}

// R5: what is answered hangs on nothing but what is handed in, however many ask at once.
func TestAtOnce(t *testing.T) {
	frames := someFrames()
	var all sync.WaitGroup
	for range 8 {
		all.Go(func() {
			for _, f := range frames {
				b, _ := Put(f)
				if g, e := Get(b); !equal(f, g) || e != api.OK {
					t.Errorf("%+v: %d", f, e)
				}
				l := []api.Value{yes, number(int64(f.Round)), no}
				p, _ := Payload(l)
				if got, e := Values(p, typesOf(l)); !slices.Equal(got, l) || e != api.OK {
					t.Errorf("%v: %v %d", l, got, e)
				}
			}
		})
	}
	all.Wait()
}

// R1: no bytes and no types bring a panic; what is answered to them is a frame, or values, of just these bytes.
func TestAnyBytes(t *testing.T) {
	next := chance(17)
	for range 20_000 {
		b := bytesOf(int(next() % 40))
		for i := range b {
			b[i] ^= byte(next())
		}
		if f, e := Get(b); e == api.OK && !bytes.Equal(frameBytes(f), b) {
			t.Errorf("Get(%x) = %+v", b, f)
		}
		types := make([]api.Type, next()%12)
		for i := range types {
			types[i] = api.Type(next() % 4)
		}
		if l, e := Values(b, types); e == api.OK && (!slices.Equal(typesOf(l), types) || !bytes.Equal(valueBytes(l), b)) {
			t.Errorf("Values(%x, %v) = %v", b, types, l)
		}
	}
}

// The bytes of the head and of the sum are what the parts' bits come to.
func TestWidths(t *testing.T) {
	ahead := 0
	for part := range sum {
		ahead += widths[part]
	}
	if ahead != headBytes*byteBits || widths[sum] != sumBytes*byteBits || maxPayload != 1<<widths[length]-1 {
		t.Errorf("%d bits ahead of the Payload, %d of the sum, %d of the length", ahead, widths[sum], widths[length])
	}
}
