// Package crc is layer 2, sums of bytes (CRC-32): see ../../shared/doc/02-crc.md.
package crc

// fourSteps is what four bits' steps make of each number of four bits. As steps are linear, the higher bits only move down beside it.
var fourSteps = [16]uint32{
	0x00000000, 0x1DB71064, 0x3B6E20C8, 0x26D930AC,
	0x76DC4190, 0x6B6B51F4, 0x4DB26158, 0x5005713C,
	0xEDB88320, 0xF00F9344, 0xD6D6A3E8, 0xCB61B38C,
	0x9B64C2B0, 0x86D3D2D4, 0xA00AE278, 0xBDBDF21C,
}

// Sum answers the sum of b.
func Sum(b []byte) uint32 {
	sum := ^uint32(0)
	for _, c := range b {
		sum = Step(sum, c)
	}
	return ^sum
}

// Step answers crc behind one byte more.
func Step(crc uint32, c byte) uint32 {
	crc ^= uint32(c)
	crc = crc>>4 ^ fourSteps[crc&15]
	return crc>>4 ^ fourSteps[crc&15]
}
