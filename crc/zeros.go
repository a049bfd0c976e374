package crc

// A number of 32 bits stands here for a polynomial over the field of two: its highest bit for the
// power 0 of x, its lowest for the power 31. A step is then a multiplication by x, and n zero bytes
// are one by x to the power 8n: squaring finds it in a few products, however long the run is.

const (
	polyBits = 32
	oneZero  = 1 << (polyBits - 1 - byteBits) // the factor of one zero byte
)

// takeZeros is what n zero bytes make of r.
func takeZeros(r uint32, n int) uint32 {
	for factor := uint32(oneZero); n > 0; n /= 2 {
		if n%2 == 1 {
			r = times(r, factor)
		}
		factor = times(factor, factor)
	}
	return r
}

// times is the product of two, modulo the polynomial of the sum.
func times(a, b uint32) uint32 {
	var product uint32
	for power := range polyBits {
		// All ones, if a has this power: see step.
		has := -(a >> (polyBits - 1 - power) & 1)
		product ^= b & has
		b = step(b)
	}
	return product
}
