// Package crc: check sums: see DOC.md, chapter 1.
package crc

// nibbles tells, for each four bits, what they do to a sum behind four steps: half of the usual table's 256 words would be too many to keep.
var nibbles = [16]uint32{
	0x00000000, 0x105EC76F, 0x20BD8EDE, 0x30E349B1,
	0x417B1DBC, 0x5125DAD3, 0x61C69362, 0x7198540D,
	0x82F63B78, 0x92A8FC17, 0xA24BB5A6, 0xB21572C9,
	0xC38D26C4, 0xD3D3E1AB, 0xE330A81A, 0xF36E6F75,
}

// Sum tells bytes' sum.
func Sum(b []byte) uint32 { return More(0, b) }

// More goes on with a sum.
func More(sum uint32, b []byte) uint32 {
	c := ^sum
	for _, x := range b {
		c ^= uint32(x)
		c = c>>4 ^ nibbles[c&15]
		c = c>>4 ^ nibbles[c&15]
	}
	return ^c
}
