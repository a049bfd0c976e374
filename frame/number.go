package frame

// appendNumber writes the lowest bytes of a number, the lowest first.
func appendNumber(out []byte, x uint32, size int) []byte {
	for k := range size {
		out = append(out, byte(x>>(8*k)))
	}
	return out
}

// number reads at most four bytes, the lowest first.
func number(b []byte) uint32 {
	var x uint32
	for k, c := range b {
		x |= uint32(c) << (8 * k)
	}
	return x
}
