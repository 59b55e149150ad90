package journal

// appendNumber puts the size low bytes of a number behind b, the low byte first, as numbers stand in files.
func appendNumber(b []byte, n uint64, size int) []byte {
	for range size {
		b = append(b, byte(n))
		n >>= 8
	}
	return b
}

// number reads what appendNumber wrote; b has at most 8 bytes.
func number(b []byte) uint64 {
	n := uint64(0)
	for i, c := range b {
		n |= uint64(c) << (8 * i)
	}
	return n
}
