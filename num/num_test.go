package num_test

import (
	"hash/crc32"
	"math"
	"math/rand"
	"strings"
	"testing"

	"rhizome/api"
	"rhizome/num"
)

func TestPutTellsTheGreatestFirst(t *testing.T) { // P1.1
	for width := 1; width <= 6; width++ {
		top := 1 << (8 * width)
		for _, n := range []int{0, 1, 2, 127, 128, 255, top / 3, top - 2, top - 1} {
			s, e := num.Put(n, width)
			if e != api.OK || len(s) != width {
				t.Fatalf("Put(%d, %d): %x, %d", n, width, s, e)
			}
			back := 0
			for _, c := range []byte(s) {
				back = back*256 + int(c)
			}
			if back != n {
				t.Errorf("Put(%d, %d): %x", n, width, s)
			}
		}
		for _, n := range []int{-1, top, top + 1, math.MaxInt, math.MinInt} {
			if s, e := num.Put(n, width); s != "" || e != api.ErrRange {
				t.Errorf("Put(%d, %d): %x, %d", n, width, s, e)
			}
		}
	}
	for _, width := range []int{math.MinInt, -1, 0, 7, 8, 64, math.MaxInt} {
		if s, e := num.Put(1, width); s != "" || e != api.ErrRange {
			t.Errorf("Put of width %d: %x, %d", width, s, e)
		}
	}
}

func TestGetAtEdges(t *testing.T) { // P1.1
	for _, c := range []struct {
		s         string
		at, width int
		n         int
		e         api.Errno
	}{
		{"\x01\x02\x03", 0, 1, 1, api.OK}, {"\x01\x02\x03", 1, 2, 0x203, api.OK}, {"\x01\x02\x03", 2, 1, 3, api.OK},
		{"\xff\xff\xff\xff\xff\xff", 0, 6, 1<<48 - 1, api.OK},
		{"\x01\x02\x03", 2, 2, 0, api.ErrShort}, {"\x01\x02\x03", 3, 1, 0, api.ErrShort}, {"", 0, 1, 0, api.ErrShort},
		{"\x01", 2, 1, 0, api.ErrRange}, {"\x01", -1, 1, 0, api.ErrRange}, {"\x01", 0, 0, 0, api.ErrRange},
		{"\x01", 0, 7, 0, api.ErrRange}, {"12345678", 0, 7, 0, api.ErrRange}, {"\x01", math.MaxInt, 6, 0, api.ErrRange},
		{"\x01", math.MinInt, 1, 0, api.ErrRange}, {"\x01", 0, math.MaxInt, 0, api.ErrRange},
	} {
		if n, e := num.Get(c.s, c.at, c.width); n != c.n || e != c.e {
			t.Errorf("Get(%x, %d, %d): %d, %d", c.s, c.at, c.width, n, e)
		}
	}
}

func TestJoinIsPutOfEach(t *testing.T) { // P1.1, P1.4
	if s, e := num.Join(1, 3, 4); s != "\x03\x04" || e != api.OK {
		t.Errorf("%x, %d", s, e)
	}
	for _, width := range []int{math.MinInt, 0, 7, math.MaxInt} {
		if s, e := num.Join(width); s != "" || e != api.ErrRange {
			t.Errorf("Join of none, width %d: %x, %d", width, s, e)
		}
	}
	if s, e := num.Join(2); s != "" || e != api.OK {
		t.Errorf("Join of none: %x, %d", s, e)
	}
	if s, e := num.Join(1, 1, 2, 256, 3); s != "" || e != api.ErrRange {
		t.Errorf("Join of one too great: %x, %d", s, e)
	}
	r := rand.New(rand.NewSource(7))
	for range 300 {
		width := 1 + r.Intn(6)
		l := make([]int, r.Intn(9))
		for i := range l {
			l[i] = r.Intn(1 << (8 * width))
		}
		s, e := num.Join(width, l...)
		if e != api.OK || len(s) != width*len(l) {
			t.Fatalf("Join(%d, %v): %x, %d", width, l, s, e)
		}
		for i, n := range l {
			if m, e := num.Get(s, i*width, width); m != n || e != api.OK {
				t.Fatalf("Get %d of Join(%d, %v): %d, %d", i, width, l, m, e)
			}
		}
	}
}

func TestCrc(t *testing.T) { // P1.2
	if num.Crc("123456789") != 0xCBF43926 || num.Crc("") != 0 {
		t.Errorf("%x, %x", num.Crc("123456789"), num.Crc(""))
	}
	r := rand.New(rand.NewSource(8))
	for n := range 200 {
		b := make([]byte, n)
		r.Read(b)
		if num.Crc(string(b)) != crc32.ChecksumIEEE(b) {
			t.Fatalf("of %x: %x", b, num.Crc(string(b)))
		}
	}
}

func TestHex(t *testing.T) { // P1.2
	var all []byte
	for i := range 256 {
		all = append(all, byte(i))
	}
	s := num.Hex(string(all))
	if len(s) != 512 || s[:8] != "00010203" || s[2*0x9a:2*0x9a+2] != "9a" || s[510:] != "ff" {
		t.Errorf("Hex: %s", s)
	}
	if b, ok := num.Unhex(s); !ok || b != string(all) {
		t.Errorf("Unhex: %x, %t", b, ok)
	}
	if b, ok := num.Unhex(""); !ok || b != "" {
		t.Errorf("Unhex of nothing: %x, %t", b, ok)
	}
	for _, s := range []string{"0", "0A", "A0", "0g", "g0", "000", "0 ", " 0", "0x00", "00\x00", "/0", "0:", "`0", "\xff\xff", strings.Repeat("0", 99)} {
		if b, ok := num.Unhex(s); ok || b != "" {
			t.Errorf("Unhex(%q): %x", s, b)
		}
	}
}

func TestArgumentsStay(t *testing.T) { // P1.3
	l := []int{5, 6, 7}
	s, _ := num.Join(2, l[:2]...)
	l[0] = 9
	if s != "\x00\x05\x00\x06" || l[1] != 6 || l[2] != 7 {
		t.Errorf("%x, %v", s, l)
	}
}
