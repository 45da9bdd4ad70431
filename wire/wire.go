// Package wire encodes integers, byte strings and lists as byte sequences, and decodes them (layer 1,
// shared/doc/01-wire.md). Every value has exactly one encoding, and decoding accepts nothing else.
package wire

import "interlace/api"

const (
	// more marks each byte of an integer but its last one.
	more = 128
	// digitBits is the number of bits of an integer that one byte holds.
	digitBits = 7
	// maxDigits is the number of bytes of the longest integers: ten times 7 bits hold 64 bits.
	maxDigits = 10
	// maxLastDigit is what the tenth byte can add to the 63 bits before it.
	maxLastDigit = 1
)

// Int returns the encoding of an integer.
func Int(n int) []byte { return addInt(nil, n) }

// addInt appends to b, so that a list is encoded without a slice for each element.
func addInt(b []byte, n int) []byte {
	z := fold(n)
	for z >= more {
		b = append(b, byte(z)|more)
		z >>= digitBits
	}
	return append(b, byte(z))
}

// fold maps the integers to those that are not negative, so that integers near 0 have short encodings on both sides.
func fold(n int) uint64 {
	if n < 0 {
		// -2n-1 is the complement of 2n; the subtraction itself could leave 64 bits.
		return ^(uint64(n) << 1)
	}
	return uint64(n) << 1
}

// unfold undoes fold.
func unfold(z uint64) int {
	n := int(z >> 1)
	if z&1 == 1 {
		return ^n
	}
	return n
}

// GetInt decodes an integer at the beginning of a byte sequence.
func GetInt(b []byte) (int, int, api.Errno) {
	z, at := uint64(0), 0
digits:
	for {
		switch {
		case at == maxDigits:
			return 0, 0, api.ErrEncoding
		case at == len(b):
			return 0, 0, api.ErrTruncated
		case b[at] < more:
			break digits
		}
		z |= uint64(b[at]-more) << (digitBits * at)
		at++
	}
	last := b[at]
	tooGreat := at == maxDigits-1 && last > maxLastDigit
	// A last byte 0 adds nothing to the bytes before it: there is a shorter encoding.
	tooLong := at > 0 && last == 0
	if tooGreat || tooLong {
		return 0, 0, api.ErrEncoding
	}
	z |= uint64(last) << (digitBits * at)
	return unfold(z), at + 1, api.OK
}

// Bytes returns the encoding of a byte string.
func Bytes(s string) []byte { return addBytes(nil, s) }

func addBytes(b []byte, s string) []byte { return append(addInt(b, len(s)), s...) }

// GetBytes decodes a byte string at the beginning of a byte sequence.
func GetBytes(b []byte) (string, int, api.Errno) {
	n, used, e := getLength(b, 1)
	if e != api.OK {
		return "", 0, e
	}
	return string(b[used : used+n]), used + n, api.OK
}

// getLength decodes the number of parts that follow, each of which takes at least size bytes. Whoever makes room for
// as many parts thereby needs no more memory than is proportional to len(b).
func getLength(b []byte, size int) (int, int, api.Errno) {
	n, used, e := GetInt(b)
	switch {
	case e != api.OK:
		return 0, 0, e
	case n < 0:
		return 0, 0, api.ErrEncoding
	// The product n * size could leave 64 bits, the quotient cannot.
	case n > (len(b)-used)/size:
		return 0, 0, api.ErrTruncated
	}
	return n, used, api.OK
}

// Ints returns the encoding of a list of integers.
func Ints(l []int) []byte { return list(l, addInt) }

// Strings returns the encoding of a list of byte strings.
func Strings(l []string) []byte { return list(l, addBytes) }

// Digests returns the encoding of a list of digests.
func Digests(l []api.Digest) []byte { return list(l, addDigest) }

func addDigest(b []byte, d api.Digest) []byte { return append(b, d[:]...) }

// list returns the encoding of a list, whose elements are encoded by add.
func list[T any](l []T, add func([]byte, T) []byte) []byte {
	b := Int(len(l))
	for _, x := range l {
		b = add(b, x)
	}
	return b
}

// GetInts decodes a list of integers at the beginning of a byte sequence.
func GetInts(b []byte) ([]int, int, api.Errno) { return getList(b, 1, GetInt) }

// GetStrings decodes a list of byte strings at the beginning of a byte sequence.
func GetStrings(b []byte) ([]string, int, api.Errno) { return getList(b, 1, GetBytes) }

// GetDigests decodes a list of digests at the beginning of a byte sequence.
func GetDigests(b []byte) ([]api.Digest, int, api.Errno) {
	return getList(b, api.DigestSize, getDigest)
}

// getDigest relies on getList, which has made sure that there are as many bytes as all digests take.
func getDigest(b []byte) (api.Digest, int, api.Errno) {
	return api.Digest(b[:api.DigestSize]), api.DigestSize, api.OK
}

// getList decodes a list, whose elements take at least size bytes each and are decoded by get.
func getList[T any](b []byte, size int, get func([]byte) (T, int, api.Errno)) ([]T, int, api.Errno) {
	n, at, e := getLength(b, size)
	if e != api.OK {
		return nil, 0, e
	}
	l := make([]T, n)
	for i := range l {
		x, used, e := get(b[at:])
		if e != api.OK {
			return nil, 0, e
		}
		l[i] = x
		at += used
	}
	return l, at, api.OK
}
