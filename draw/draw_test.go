package draw_test

import (
	"testing"

	"rhizome/draw"
)

func TestNext(t *testing.T) { // P20.2
	for _, seed := range []int{0, 1, 77, 1<<32 - 1, 1 << 32, 1<<40 + 5} {
		d, x := draw.New(seed), seed%(1<<32)
		for range 100 {
			x = (x*69069 + 1) % (1 << 32)
			if n := d.Next(); n != x/65536 {
				t.Fatalf("seed %d: %d, not %d", seed, n, x/65536)
			}
		}
	}
}
