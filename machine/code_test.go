package machine_test

import (
	"math"
	"slices"
	"strconv"
	"testing"

	"maskwright/machine"
)

// P16.4: codes as they are written.
func TestCodes(t *testing.T) {
	for i, x := range []struct {
		codes func(int) ([]uint64, int)
		n     int
		want  []uint64
		w     int
	}{
		{machine.Binary, 0, nil, 1},
		{machine.Binary, 1, []uint64{0}, 1},
		{machine.Binary, 2, []uint64{0, 1}, 1},
		{machine.Binary, 3, []uint64{0, 1, 2}, 2},
		{machine.Binary, 4, []uint64{0, 1, 2, 3}, 2},
		{machine.Binary, 5, []uint64{0, 1, 2, 3, 4}, 3},
		{machine.Gray, 0, nil, 1},
		{machine.Gray, 1, []uint64{0}, 1},
		{machine.Gray, 2, []uint64{0, 1}, 1},
		{machine.Gray, 3, []uint64{0, 1, 3}, 2},
		{machine.Gray, 9, []uint64{0, 1, 3, 2, 6, 7, 5, 4, 12}, 4},
		{machine.OneHot, 0, nil, 1},
		{machine.OneHot, 1, []uint64{1}, 1},
		{machine.OneHot, 2, []uint64{1, 2}, 2},
		{machine.OneHot, 5, []uint64{1, 2, 4, 8, 16}, 5},
	} {
		if l, w := x.codes(x.n); !slices.Equal(l, x.want) || w != x.w {
			t.Errorf("%d: %v, %d, not %v, %d", i, l, w, x.want, x.w)
		}
	}
}

// P16.4: all numbers of codes, also those that are too small and too large.
func TestNumbersOfCodes(t *testing.T) {
	list := []int{math.MinInt, math.MinInt + 1, -1 << 32, -33, 1 << 32, 1<<32 + 3, 1 << 62, math.MaxInt}
	for n := -4; n < 100; n++ {
		list = append(list, n)
	}
	for _, n := range list {
		count := min(max(n, 0), 32)
		// The greatest number is written in binary digits.
		digits := len(strconv.FormatInt(int64(max(count-1, 0)), 2))
		binary, bw := machine.Binary(n)
		gray, gw := machine.Gray(n)
		hot, hw := machine.OneHot(n)
		if len(binary) != count || len(gray) != count || len(hot) != count {
			t.Fatal(n, len(binary), len(gray), len(hot))
		}
		if bw != digits || gw != digits || hw != max(count, 1) {
			t.Error(n, bw, gw, hw)
		}
		for i := range count {
			if binary[i] != uint64(i) || gray[i] != uint64(i^i>>1) || hot[i] != uint64(math.Pow(2, float64(i))) {
				t.Error(n, i, binary[i], gray[i], hot[i])
			}
		}
	}
}

// P16.4, Z2: results are new memory.
func TestNewCodes(t *testing.T) {
	for _, codes := range []func(int) ([]uint64, int){machine.Binary, machine.Gray, machine.OneHot} {
		a, _ := codes(20)
		b, _ := codes(20)
		a[3] = 99
		c, _ := codes(20)
		if !slices.Equal(b, c) || share(a, b, c) {
			t.Error(a, b, c)
		}
	}
}
