package crc

import (
	"bytes"
	"hash/crc32"
	"sync"
	"testing"
)

// told works the sum out bit by bit, in the words of P1.2, so that the table is held against something else than itself.
func told(sum uint32, b []byte) uint32 {
	x := ^sum
	for _, c := range b {
		x ^= uint32(c)
		for range 8 {
			low := x & 1
			x >>= 1
			if low == 1 {
				x ^= 0xedb88320
			}
		}
	}
	return ^x
}

// numbers tells bytes that look like chance and are the same in each run.
func numbers(seed uint32, n int) []byte {
	b := make([]byte, n)
	for i := range b {
		seed = seed*1664525 + 1013904223
		b[i] = byte(seed >> 24)
	}
	return b
}

func xor(a, b []byte) []byte {
	c := make([]byte, len(a))
	for i := range a {
		c[i] = a[i] ^ b[i]
	}
	return c
}

var sums = []uint32{0, 1, 5, 7, 0x7fffffff, 0x80000000, 0xedb88320, 0xdeadbeef, 0xfffffffe, 0xffffffff}

func TestExamples(t *testing.T) {
	for _, c := range []struct {
		what      string
		got, want uint32
	}{
		{"Of(123456789)", Of([]byte("123456789")), 0xcbf43926},
		{"Of(nil)", Of(nil), 0},
		{"Of(empty)", Of([]byte{}), 0},
		{"Of(one byte 0)", Of([]byte{0}), 0xd202ef8d},
		{"More(Of(1234), 56789)", More(Of([]byte("1234")), []byte("56789")), 0xcbf43926},
		{"More(5, nil)", More(5, nil), 5},
		{"More(5, empty)", More(5, []byte{}), 5},
	} {
		if c.got != c.want {
			t.Errorf("%s: %08x, not %08x", c.what, c.got, c.want)
		}
	}
}

// P1.1
func TestOfIsMoreOfNought(t *testing.T) {
	for n := range 300 {
		b := numbers(uint32(n), n)
		if Of(b) != More(0, b) || Of(b) != told(0, b) {
			t.Errorf("%d bytes: %08x", n, Of(b))
		}
	}
}

// P1.2
func TestMoreOfEachByte(t *testing.T) {
	for _, sum := range sums {
		for c := range 256 {
			b := []byte{byte(c)}
			if got, want := More(sum, b), told(sum, b); got != want {
				t.Errorf("More(%08x, %02x): %08x, not %08x", sum, c, got, want)
			}
		}
	}
}

// P1.2
func TestMoreOfManyBytes(t *testing.T) {
	lists := [][]byte{nil, bytes.Repeat([]byte{0}, 1000), bytes.Repeat([]byte{255}, 1000), numbers(1, 70000)}
	for n := range 70 {
		lists = append(lists, numbers(uint32(n), n))
	}
	for _, sum := range sums {
		for _, b := range lists {
			got := More(sum, b)
			if got != told(sum, b) || got != crc32.Update(sum, crc32.IEEETable, b) {
				t.Errorf("More(%08x, %d bytes): %08x", sum, len(b), got)
			}
		}
	}
}

// P1.2
func TestMoreOfNoneIsTheSum(t *testing.T) {
	for _, sum := range sums {
		if More(sum, nil) != sum || More(sum, []byte{}) != sum {
			t.Errorf("More(%08x, none): %08x", sum, More(sum, nil))
		}
	}
}

// P1.3, its first sentence; likewise with a sum ahead, and in three parts.
func TestParts(t *testing.T) {
	b := numbers(3, 90)
	for i := 0; i <= len(b); i++ {
		if More(Of(b[:i]), b[i:]) != Of(b) {
			t.Errorf("cut at %d", i)
		}
		for _, sum := range sums {
			if More(More(sum, b[:i]), b[i:]) != More(sum, b) {
				t.Errorf("cut at %d, behind %08x", i, sum)
			}
		}
		for j := i; j <= len(b); j++ {
			if More(More(Of(b[:i]), b[i:j]), b[j:]) != Of(b) {
				t.Errorf("cut at %d and %d", i, j)
			}
		}
	}
}

// P1.3, its second sentence: each change of one byte and of two, at each place.
func TestShortChanges(t *testing.T) {
	b := numbers(4, 12)
	sum := Of(b)
	for at := 0; at+2 <= len(b); at++ {
		c := bytes.Clone(b)
		for by := 1; by < 1<<16; by++ {
			c[at], c[at+1] = b[at]^byte(by), b[at+1]^byte(by>>8)
			if Of(c) == sum {
				t.Fatalf("changed at %d by %04x: the same sum", at, by)
			}
		}
	}
}

// P1.3, its second sentence: changes of three bytes and four, by all patterns of four values a byte, and by some that look like chance.
func TestLongerChanges(t *testing.T) {
	for _, n := range []int{4, 5, 13, 64} {
		b := numbers(uint32(n), n)
		sum := Of(b)
		tellsOf := func(at int, by uint32) {
			c := bytes.Clone(b)
			for i := range 4 {
				c[at+i] ^= byte(by >> (8 * i))
			}
			if by != 0 && Of(c) == sum {
				t.Fatalf("%d bytes, changed at %d by %08x: the same sum", n, at, by)
			}
		}
		for at := 0; at+4 <= n; at++ {
			edges := [4]uint32{0, 1, 0x80, 0xff}
			for k := range 256 {
				tellsOf(at, edges[k&3]|edges[k>>2&3]<<8|edges[k>>4&3]<<16|edges[k>>6]<<24)
			}
			by := uint32(at + n)
			for range 500 {
				by = by*1664525 + 1013904223
				tellsOf(at, by)
			}
		}
	}
}

// P1.3, its second sentence: as changes add up (TestSameChange), all changes of four bytes change the sum, if those of their 32 bits are independent.
func TestAllChangesOfFourBytes(t *testing.T) {
	for _, n := range []int{4, 13, 200, 4112} {
		for _, at := range []int{0, (n - 4) / 2, n - 4} {
			b := make([]byte, n)
			sum := Of(b)
			var leads [32]uint32
			for bit := range 32 {
				b[at+bit/8] ^= 1 << (bit % 8)
				rest := Of(b) ^ sum
				b[at+bit/8] ^= 1 << (bit % 8)
				for i := 31; i >= 0 && rest != 0; i-- {
					if rest>>i&1 == 0 {
						continue
					}
					if leads[i] == 0 {
						leads[i] = rest
						break
					}
					rest ^= leads[i]
				}
				if rest == 0 {
					t.Errorf("%d bytes, at %d, bit %d: some change leaves the sum as it was", n, at, bit)
				}
			}
		}
	}
}

// P1.3, its third sentence.
func TestSameChange(t *testing.T) {
	for n := range 80 {
		for k := range 10 {
			a, b, by := numbers(uint32(k), n), numbers(uint32(k+100), n), numbers(uint32(k+200), n)
			if Of(xor(a, by))^Of(a) != Of(xor(b, by))^Of(b) {
				t.Errorf("%d bytes, %d: one change, two differences", n, k)
			}
			for _, sum := range sums {
				if More(sum, xor(a, by))^More(sum, a) != Of(xor(b, by))^Of(b) {
					t.Errorf("%d bytes, %d, behind %08x: one change, two differences", n, k, sum)
				}
			}
		}
	}
}

// R4: neither the bytes nor the room behind them are changed.
func TestBytesStay(t *testing.T) {
	for n := range 40 {
		whole := numbers(uint32(n), n+16)
		was := bytes.Clone(whole)
		Of(whole[:n])
		More(9, whole[:n])
		Of(whole[n:n:n])
		if !bytes.Equal(whole, was) {
			t.Errorf("%d bytes are not as they were", n)
		}
	}
}

// R5: an answer hangs on what was handed in alone: not on calls ahead, not on spare room, not on calls at the same time.
func TestNothingElseCounts(t *testing.T) {
	b := numbers(6, 50)
	want := told(8, b)
	More(0xffffffff, numbers(7, 33))
	if More(8, b) != want || More(8, append(make([]byte, 0, 500), b...)) != want {
		t.Error("one list, two sums")
	}
	var wait sync.WaitGroup
	got := make([]uint32, 16)
	for i := range got {
		wait.Go(func() { got[i] = More(8, b) })
	}
	wait.Wait()
	for i, x := range got {
		if x != want {
			t.Errorf("call %d at the same time: %08x, not %08x", i, x, want)
		}
	}
}
