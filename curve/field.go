package curve

import (
	"math/bits"
)

const (
	limbBits = 51
	limbMask = 1<<limbBits - 1
)

// element is a number modulo 2^255 - 19, in limbs of 51 bits; what an operation answers has no limb far above that.
type element [5]uint64

// wide is a number of 128 bits: a sum of products of limbs.
type wide struct{ high, low uint64 }

func (w wide) addProduct(x, y uint64) wide {
	high, low := bits.Mul64(x, y)
	sum, carry := bits.Add64(w.low, low, 0)
	top, _ := bits.Add64(w.high, high, carry)
	return wide{top, sum}
}

// fromBytes ignores the bit that is beyond the 255 of a coordinate.
func fromBytes(b [32]byte) element {
	b[31] &= 127
	var e element
	for i, x := range b {
		limb, shift := 8*i/limbBits, 8*i%limbBits
		moved := uint64(x) << shift
		e[limb] |= moved & limbMask
		if rest := moved >> limbBits; rest != 0 {
			e[limb+1] |= rest
		}
	}
	return e
}

func (e element) bytes() [32]byte {
	e = e.reduced()
	var out [32]byte
	for i := range out {
		limb, shift := 8*i/limbBits, 8*i%limbBits
		x := e[limb] >> shift
		if shift > limbBits-8 && limb+1 < len(e) {
			x |= e[limb+1] << (limbBits - shift)
		}
		out[i] = byte(x)
	}
	return out
}

// reduced is the least number that equals e: it takes the modulus away where e, with 19 added, reaches 2^255.
// No operation answers twice the modulus, so that once is enough.
func (e element) reduced() element {
	over := uint64(19)
	for _, x := range e {
		over = (x + over) >> limbBits
	}
	e[0] += 19 * over
	var carry uint64
	for i := range e {
		e[i] += carry
		carry = e[i] >> limbBits
		e[i] &= limbMask
	}
	return e
}

// carried moves what is above 51 bits of each limb into the next one; 2^255 equals 19.
func (e element) carried() element {
	var carry uint64
	for i := range e {
		e[i] += carry
		carry = e[i] >> limbBits
		e[i] &= limbMask
	}
	e[0] += 19 * carry
	return e
}

func (e element) plus(f element) element {
	for i := range e {
		e[i] += f[i]
	}
	return e.carried()
}

// minus adds twice the modulus first, so that no limb falls below 0.
func (e element) minus(f element) element {
	e[0] += 2*(limbMask-18) - f[0]
	for i := 1; i < len(e); i++ {
		e[i] += 2*limbMask - f[i]
	}
	return e.carried()
}

// times is written out, since all time goes into it; a product whose place is 5 or beyond comes back 19 times.
func (e element) times(f element) element {
	a, b, c, d, g := e[0], e[1], e[2], e[3], e[4]
	v, w, x, y, z := f[0], f[1], f[2], f[3], f[4]
	w19, x19, y19, z19 := 19*w, 19*x, 19*y, 19*z
	return narrow(
		wide{}.addProduct(a, v).addProduct(b, z19).addProduct(c, y19).addProduct(d, x19).addProduct(g, w19),
		wide{}.addProduct(a, w).addProduct(b, v).addProduct(c, z19).addProduct(d, y19).addProduct(g, x19),
		wide{}.addProduct(a, x).addProduct(b, w).addProduct(c, v).addProduct(d, z19).addProduct(g, y19),
		wide{}.addProduct(a, y).addProduct(b, x).addProduct(c, w).addProduct(d, v).addProduct(g, z19),
		wide{}.addProduct(a, z).addProduct(b, y).addProduct(c, x).addProduct(d, w).addProduct(g, v))
}

// narrow carries sums of products into limbs.
func narrow(a, b, c, d, e wide) element {
	first, carry := a.split(0)
	second, carry := b.split(carry)
	third, carry := c.split(carry)
	fourth, carry := d.split(carry)
	fifth, carry := e.split(carry)
	high, low := bits.Mul64(carry, 19)
	first, carry = wide{high, low}.split(first)
	return element{first, second + carry, third, fourth, fifth}
}

// split is the lowest limb of w with carry added, and what is above it.
func (w wide) split(carry uint64) (limb, above uint64) {
	low, c := bits.Add64(w.low, carry, 0)
	return low & limbMask, (w.high+c)<<(64-limbBits) | low>>limbBits
}

// inverse is the power 2^255 - 21, whose bits but those of 4 and 16 are set; 0 for 0.
func (e element) inverse() element {
	out := e
	for i := 253; i >= 0; i-- {
		out = out.times(out)
		if i != 2 && i != 4 {
			out = out.times(e)
		}
	}
	return out
}

// swap exchanges e and f if bit is 1; what it does does not hang on the bit.
func swap(bit uint64, e, f *element) {
	mask := -bit
	for i := range e {
		differ := mask & (e[i] ^ f[i])
		e[i] ^= differ
		f[i] ^= differ
	}
}
