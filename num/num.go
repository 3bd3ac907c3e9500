// Package num: numbers and bytes (chapter 1).
package num

import "rhizome/api"

const (
	most       = 6 // bytes that a number may have
	polynomial = 0xEDB88320
	small      = "0123456789abcdef"
)

func mayWidth(width int) bool { return width >= 1 && width <= most }

// Put tells n in width bytes, the greatest first.
func Put(n, width int) (string, api.Errno) {
	if !mayWidth(width) || n < 0 || n>>(8*width) > 0 {
		return "", api.ErrRange
	}
	b := make([]byte, width)
	for i := range b {
		b[i] = byte(n >> (8 * (width - 1 - i)))
	}
	return string(b), api.OK
}

// Get reads the number of width bytes that begins at a place of s.
func Get(s string, at, width int) (int, api.Errno) {
	if !mayWidth(width) || at < 0 || at > len(s) {
		return 0, api.ErrRange
	}
	if len(s)-at < width {
		return 0, api.ErrShort
	}
	n := 0
	for i := range width {
		n = n<<8 | int(s[at+i])
	}
	return n, api.OK
}

// Join puts each number in width bytes, one behind the other.
func Join(width int, l ...int) (string, api.Errno) {
	if !mayWidth(width) {
		return "", api.ErrRange
	}
	b := make([]byte, 0, width*len(l))
	for _, n := range l {
		s, e := Put(n, width)
		if e != api.OK {
			return "", e
		}
		b = append(b, s...)
	}
	return string(b), api.OK
}

// Crc is the CRC-32 of IEEE.
func Crc(s string) uint32 {
	c := ^uint32(0)
	for i := range len(s) {
		c ^= uint32(s[i])
		for range 8 {
			c = c>>1 ^ polynomial&-(c&1)
		}
	}
	return ^c
}

// Hex tells each byte in two small digits.
func Hex(s string) string {
	b := make([]byte, 0, 2*len(s))
	for i := range len(s) {
		b = append(b, small[s[i]>>4], small[s[i]&15])
	}
	return string(b)
}

// Unhex is Hex turned round; great digits are none.
func Unhex(s string) (string, bool) {
	if len(s)%2 != 0 {
		return "", false
	}
	b := make([]byte, 0, len(s)/2)
	for i := 0; i < len(s); i += 2 {
		high, low := digit(s[i]), digit(s[i+1])
		if high < 0 || low < 0 {
			return "", false
		}
		b = append(b, byte(high<<4|low))
	}
	return string(b), true
}

func digit(c byte) int {
	switch {
	case c >= '0' && c <= '9':
		return int(c - '0')
	case c >= 'a' && c <= 'f':
		return int(c-'a') + 10
	}
	return -1
}
