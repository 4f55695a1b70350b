// Package crc is layer 1: a sum of bytes (CRC-32, as IEEE 802.3 has it). See doc/01-crc.md.
package crc

// divisor has its bits turned end for end, since the lowest bit of a byte is taken first.
const divisor uint32 = 0xedb88320

// Of: the sum of bytes. (P1.1)
func Of(b []byte) uint32 { return More(0, b) }

// More: the sum of bytes that stand behind others, of which it is told the sum. (P1.2)
func More(sum uint32, b []byte) uint32 {
	table := remainders(divisor)
	x := ^sum
	for _, c := range b {
		x ^= uint32(c)
		x = x>>4 ^ table[x&15]
		x = x>>4 ^ table[x&15]
	}
	return ^x
}

// remainders: what each four lowest bits leave when they have been taken off, one by one.
// They are of four bits and not of eight because they are made anew at each call, and most lists of bytes are short.
func remainders(by uint32) [16]uint32 {
	remainder := func(x uint32) uint32 {
		for range 4 {
			low := x & 1
			x >>= 1
			if low == 1 {
				x ^= by
			}
		}
		return x
	}
	var table [16]uint32
	for i := range table {
		table[i] = remainder(uint32(i))
	}
	return table
}
