package machine

import "math/bits"

// maxCodes is the greatest number of codes, which is that of the states of a machine.
const maxCodes = 1 << MaxBits

// Binary returns n codes that count up, and their width.
func Binary(n int) ([]uint64, int) {
	return codes(n, func(i uint64) uint64 { return i }), width(n)
}

// Gray returns n codes of which neighbours differ in one bit, and their width.
func Gray(n int) ([]uint64, int) {
	return codes(n, func(i uint64) uint64 { return i ^ i/2 }), width(n)
}

// OneHot returns n codes with one bit each, and their width.
func OneHot(n int) ([]uint64, int) {
	return codes(n, func(i uint64) uint64 { return 1 << i }), max(count(n), 1)
}

// count returns the number of codes for a number that is asked for.
func count(n int) int {
	return min(max(n, 0), maxCodes)
}

// codes returns the codes of the numbers from 0 on.
func codes(n int, code func(i uint64) uint64) []uint64 {
	var list []uint64
	for i := range uint64(count(n)) {
		list = append(list, code(i))
	}
	return list
}

// width returns how many bits are enough for n numbers.
func width(n int) int {
	return max(bits.Len(uint(max(count(n), 1)-1)), 1)
}
