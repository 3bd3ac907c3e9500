package serial_test

import (
	"math"
	"math/rand"
	"testing"

	"rhizome/api"
	"rhizome/serial"
)

const top = 1<<32 - 1

func TestNewer(t *testing.T) { // P12.1
	for _, c := range []struct {
		a, b int
		want bool
	}{
		{1, top, true}, {top, 1, false}, {1 << 31, 0, false}, {0, 1 << 31, false}, {1<<31 - 1, 0, true}, {0, 1<<31 - 1, false}, {5, 5, false}, {6, 5, true}, {5, 6, false}, {0, 1<<31 + 1, true}, {1<<31 + 1, 0, false},
		{0, top, true}, {-1, 0, false}, {0, -1, false}, {1 << 32, top, false}, {1<<32 + 1, 5, false}, {5, 1 << 32, false}, {math.MinInt, math.MaxInt, false}, {math.MaxInt, math.MinInt, false}, {1, -5, false},
	} {
		if serial.Newer(c.a, c.b) != c.want {
			t.Errorf("Newer(%d, %d)", c.a, c.b)
		}
	}
}

func TestAdd(t *testing.T) { // P12.1, P12.3
	for _, c := range []struct {
		a, n, want int
		e          api.Errno
	}{
		{0, 0, 0, api.OK}, {5, 6, 11, api.OK}, {top, 1, 0, api.OK}, {top, 1<<31 - 1, 1<<31 - 2, api.OK}, {0, 1<<31 - 1, 1<<31 - 1, api.OK},
		{0, 1 << 31, 0, api.ErrRange}, {0, -1, 0, api.ErrRange}, {-1, 0, 0, api.ErrRange}, {1 << 32, 0, 0, api.ErrRange}, {math.MaxInt, math.MaxInt, 0, api.ErrRange}, {math.MinInt, 0, 0, api.ErrRange},
	} {
		if n, e := serial.Add(c.a, c.n); n != c.want || e != c.e {
			t.Errorf("Add(%d, %d): %d, %d", c.a, c.n, n, e)
		}
	}
	r := rand.New(rand.NewSource(12))
	for range 2000 {
		a, n := r.Intn(1<<32), 1+r.Intn(1<<31-1)
		s, e := serial.Add(a, n)
		if e != api.OK || !serial.Newer(s, a) || serial.Newer(a, s) {
			t.Fatalf("%d, %d", a, n)
		}
		if b := r.Intn(1 << 32); serial.Newer(a, b) && serial.Newer(b, a) {
			t.Fatalf("%d, %d: both newer", a, b)
		}
	}
}

func TestLast(t *testing.T) { // P12.1
	for _, c := range []struct {
		l    []int
		want int
		ok   bool
	}{
		{nil, 0, false}, {[]int{7}, 7, true}, {[]int{0}, 0, true}, {[]int{7, 7, 7}, 7, true}, {[]int{1, 3, 2}, 3, true}, {[]int{3, 1, 3}, 3, true}, {[]int{top, 1, top - 1}, 1, true}, {[]int{0, 1 << 31}, 0, false}, {[]int{1 << 31, 0}, 0, false},
		{[]int{0, 1 << 30, 1 << 31, 3 << 30}, 0, false}, {[]int{0, 1431655765, 2863311530}, 0, false}, {[]int{1, 2, -1}, 0, false}, {[]int{-1}, 0, false}, {[]int{1 << 32}, 0, false}, {[]int{1, 1 << 32}, 0, false},
		{[]int{1 << 31, 0, 5}, 0, false}, {[]int{1 << 31, 1, 5}, 1 << 31, true}, {[]int{5, 0, 1<<31 + 4}, 0, false},
	} {
		if n, ok := serial.Last(c.l...); n != c.want || ok != c.ok {
			t.Errorf("Last(%v): %d, %t", c.l, n, ok)
		}
	}
	r := rand.New(rand.NewSource(13))
	for range 3000 {
		l := make([]int, 1+r.Intn(5))
		for i := range l {
			l[i] = r.Intn(8) << 29
		}
		want, found := 0, false
		for _, n := range l {
			all := true
			for _, m := range l {
				all = all && (m == n || serial.Newer(n, m))
			}
			if all {
				want, found = n, true
			}
		}
		if n, ok := serial.Last(l...); n != want || ok != found {
			t.Fatalf("Last(%v): %d, %t", l, n, ok)
		}
	}
}

func TestClip(t *testing.T) { // P12.2
	for _, c := range [][4]int{{5, 1, 9, 5}, {0, 1, 9, 1}, {10, 1, 9, 9}, {1, 1, 9, 1}, {9, 1, 9, 9}, {5, 9, 1, 1}, {0, 9, 1, 1}, {math.MinInt, math.MinInt, math.MaxInt, math.MinInt}, {math.MaxInt, 0, 1, 1}, {math.MinInt, 0, 1, 0}} {
		if n := serial.Clip(c[0], c[1], c[2]); n != c[3] {
			t.Errorf("Clip(%d, %d, %d): %d", c[0], c[1], c[2], n)
		}
	}
}

func TestFresh(t *testing.T) { // P12.2
	for _, c := range []struct {
		now, since, life int
		want             bool
	}{
		{0, 0, 1, true}, {5, 0, 6, true}, {5, 5, 1, true}, {5, 5, 0, false}, {9, 5, 5, true}, {10, 5, 5, false}, {4, 5, 5, false}, {api.MaxTime, api.MaxTime, 1, true}, {api.MaxTime, 0, api.MaxTime, false}, {api.MaxTime, 1, api.MaxTime, true},
		{api.MaxTime + 1, api.MaxTime, 9, false}, {0, 0, api.MaxTime + 1, false}, {-1, -1, 5, false}, {5, -1, 50, false}, {5, 5, -1, false}, {math.MaxInt, math.MinInt, math.MaxInt, false},
	} {
		if serial.Fresh(c.now, c.since, c.life) != c.want {
			t.Errorf("Fresh(%d, %d, %d)", c.now, c.since, c.life)
		}
	}
}
