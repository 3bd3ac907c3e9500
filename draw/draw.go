// Package draw: numbers that are drawn from a seed, the same each time.
package draw

// Draw is where the row of numbers stands.
type Draw struct{ x uint32 }

// New is the row of a seed, mod 2^32.
func New(seed int) Draw { return Draw{uint32(seed)} }

// Next draws, and tells the upper half of what was drawn: 0 to 65535.
func (d *Draw) Next() int {
	d.x = d.x*69069 + 1
	return int(d.x >> 16)
}
