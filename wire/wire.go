// Package wire encodes integers and strings as bytes, and computes checksums. It is layer 1.
package wire

import (
	"iter"

	"newswire/api"
)

// maxGroups is how many groups of 7 bits the greatest encoded number has.
const maxGroups = 9

// sums has, for each value of four bits, what they do to the register of the checksum.
var sums = [16]uint32{
	0x00000000, 0x105EC76F, 0x20BD8EDE, 0x30E349B1, 0x417B1DBC, 0x5125DAD3, 0x61C69362, 0x7198540D,
	0x82F63B78, 0x92A8FC17, 0xA24BB5A6, 0xB21572C9, 0xC38D26C4, 0xD3D3E1AB, 0xE330A81A, 0xF36E6F75,
}

// PutInt returns the encoding of n.
func PutInt(n int) (string, api.Errno) {
	if n < -api.MaxInt || n > api.MaxInt {
		return "", api.ErrWire
	}
	var out []byte
	for b := range groups(fold(n)) {
		out = append(out, b)
	}
	return string(out), api.OK
}

// fold maps integers to natural numbers, so that those near 0 stay small.
func fold(n int) uint64 {
	if n < 0 {
		return uint64(-2*n - 1)
	}
	return uint64(2 * n)
}

// unfold undoes fold.
func unfold(z uint64) int {
	if z%2 == 1 {
		return -int(z/2) - 1
	}
	return int(z / 2)
}

// groups yields the bytes of the encoding of z.
func groups(z uint64) iter.Seq[byte] {
	return func(yield func(byte) bool) {
		for z >= 128 {
			if !yield(byte(z%128) + 128) {
				return
			}
			z /= 128
		}
		yield(byte(z))
	}
}

// Int decodes the integer whose encoding begins at the offset at of s.
func Int(s string, at int) (int, int, api.Errno) {
	if at < 0 || at > len(s) {
		return 0, 0, api.ErrArg
	}
	var z uint64
	for i := 0; i < maxGroups && at+i < len(s); i++ {
		b := s[at+i]
		z |= uint64(b%128) << (7 * i)
		if b >= 128 {
			continue
		}
		n := unfold(z)
		if b == 0 && i > 0 || n < -api.MaxInt {
			break
		}
		return n, at + i + 1, api.OK
	}
	return 0, 0, api.ErrWire
}

// PutString returns the encoding of s.
func PutString(s string) (string, api.Errno) {
	if len(s) > api.MaxString {
		return "", api.ErrWire
	}
	n, e := PutInt(len(s))
	return n + s, e
}

// String decodes the string whose encoding begins at the offset at of s.
func String(s string, at int) (string, int, api.Errno) {
	n, next, e := Int(s, at)
	if e != api.OK {
		return "", 0, e
	}
	if n < 0 || n > api.MaxString || n > len(s)-next {
		return "", 0, api.ErrWire
	}
	return s[next : next+n], next + n, api.OK
}

// Sum returns the CRC-32C checksum of s.
func Sum(s string) int {
	register := ^uint32(0)
	for i := range len(s) {
		register ^= uint32(s[i])
		register = register>>4 ^ sums[register%16]
		register = register>>4 ^ sums[register%16]
	}
	return int(^register)
}
