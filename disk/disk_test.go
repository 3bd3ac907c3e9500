package disk_test

import (
	"bytes"
	"math"
	"math/rand"
	"slices"
	"strings"
	"testing"

	"rhizome/api"
	"rhizome/disk"
)

func made(t *testing.T, n int) *disk.Disk {
	d, e := disk.New(n)
	if e != api.OK {
		t.Fatal(e)
	}
	return d
}

// first tells the first byte of each sector.
func first(t *testing.T, d *disk.Disk) string {
	var s strings.Builder
	for k := range d.Sectors() {
		b, e := d.Read(k)
		if e != api.OK || len(b) != api.Sector {
			t.Fatalf("sector %d: %d bytes, %d", k, len(b), e)
		}
		s.WriteByte(b[0])
	}
	return s.String()
}

func full(s string) []byte {
	var b []byte
	for i := range len(s) {
		b = append(b, bytes.Repeat([]byte{s[i]}, api.Sector)...)
	}
	return b
}

func TestNew(t *testing.T) { // P13.1
	for _, n := range []int{3, 2048} {
		d := made(t, n)
		if d.Sectors() != n || !d.Up() || first(t, d) != strings.Repeat("\x00", n) || d.Writes() != 0 || d.Pending() != 0 {
			t.Errorf("%d", n)
		}
	}
	for _, n := range []int{2, 0, -1, 2049, math.MaxInt, math.MinInt} {
		if d, e := disk.New(n); d != nil || e != api.ErrRange {
			t.Errorf("%d: %d", n, e)
		}
	}
}

func TestWriteAndRead(t *testing.T) { // P13.2, P13.4
	d := made(t, 4)
	for i, c := range []struct {
		k      int
		l      []string
		e      api.Errno
		want   string
		writes int
	}{
		{0, []string{"a"}, api.OK, "a\x00\x00\x00", 1}, {1, []string{string(full("b")), "", string(full("c"))[:200]}, api.OK, "abc\x00", 3}, {3, []string{string(full("d"))}, api.OK, "abcd", 4}, {3, []string{string(full("e")), "f"}, api.ErrRange, "abcd", 4},
		{4, []string{"x"}, api.ErrRange, "abcd", 4}, {4, nil, api.OK, "abcd", 4}, {0, []string{"", ""}, api.OK, "abcd", 4}, {5, nil, api.ErrRange, "abcd", 4}, {-1, nil, api.ErrRange, "abcd", 4}, {-1, []string{"x"}, api.ErrRange, "abcd", 4},
		{math.MaxInt, []string{"x"}, api.ErrRange, "abcd", 4}, {math.MinInt, []string{"x"}, api.ErrRange, "abcd", 4}, {0, []string{string(full("12345"))}, api.ErrRange, "abcd", 4}, {0, []string{string(full("12"))[:256], string(full("2"))[:1]}, api.OK, "12cd", 6},
	} {
		var l [][]byte
		for _, s := range c.l {
			l = append(l, []byte(s))
		}
		if e := d.Write(c.k, l...); e != c.e || first(t, d) != c.want || d.Writes() != c.writes || d.Pending() != c.writes {
			t.Errorf("case %d: %d, %q, %d", i, e, first(t, d), d.Writes())
		}
	}
	if b, _ := d.Read(1); string(b) != "2"+strings.Repeat("\x00", 255) {
		t.Errorf("not filled: %q", b)
	}
	if b, _ := d.Read(2); string(b) != strings.Repeat("c", 200)+strings.Repeat("\x00", 56) {
		t.Errorf("not filled: %q", b)
	}
	for _, k := range []int{-1, 4, math.MaxInt, math.MinInt} {
		if b, e := d.Read(k); len(b) > 0 || e != api.ErrRange {
			t.Errorf("Read(%d): %d", k, e)
		}
	}
	if d.Flush() != api.OK || d.Pending() != 0 || d.Writes() != 6 || first(t, d) != "12cd" {
		t.Error("Flush")
	}
}

func TestDown(t *testing.T) { // P13.2, P13.3
	d := made(t, 3)
	d.Write(0, []byte("a"))
	d.Crash(1)
	if d.Up() || d.Pending() != 0 || d.Writes() != 1 || d.Sectors() != 3 {
		t.Error("it is up")
	}
	for _, k := range []int{0, -1, 99} {
		if b, e := d.Read(k); len(b) > 0 || e != api.ErrDown || d.Write(k, []byte("x")) != api.ErrDown || d.Write(k) != api.ErrDown {
			t.Errorf("%d: %d", k, e)
		}
	}
	if d.Flush() != api.ErrDown || d.Writes() != 1 {
		t.Error("Flush")
	}
	d.Crash()
	d.Reboot()
	if !d.Up() || first(t, d) != "a\x00\x00" {
		t.Errorf("%q", first(t, d))
	}
	d.Write(1, []byte("b"))
	d.Reboot()
	if d.Pending() != 1 || first(t, d) != "ab\x00" {
		t.Error("a Reboot of one that is up")
	}
}

func TestCrashLeavesWhatTheMaskNames(t *testing.T) { // P13.3
	d := made(t, 3)
	d.Write(0, []byte("x"))
	d.Flush()
	d.Write(0, full("yz"))
	d.Crash(2)
	d.Reboot()
	if first(t, d) != "xz\x00" {
		t.Errorf("the example: %q", first(t, d))
	}
	for mask := range 8 {
		d := made(t, 3)
		d.Write(0, []byte("o"))
		d.Flush()
		d.Write(0, []byte("a"))
		d.Write(1, []byte("b"))
		d.Write(0, []byte("c"))
		d.Crash(byte(mask))
		d.Reboot()
		want := []byte("o\x00\x00")
		if mask&1 > 0 {
			want[0] = 'a'
		}
		if mask&2 > 0 {
			want[1] = 'b'
		}
		if mask&4 > 0 {
			want[0] = 'c'
		}
		if first(t, d) != string(want) {
			t.Errorf("%d: %q", mask, first(t, d))
		}
		d.Write(2, []byte("q"))
		d.Crash()
		d.Reboot()
		if first(t, d) != string(want) {
			t.Errorf("a second fall: %q", first(t, d))
		}
	}
	d = made(t, 12)
	d.Write(0, full("abcdefghijkl"))
	d.Crash(0x81, 0x0a)
	d.Reboot()
	if first(t, d) != "a\x00\x00\x00\x00\x00\x00h\x00j\x00l" {
		t.Errorf("%q", first(t, d))
	}
	d = made(t, 12)
	d.Write(0, full("abcdefghijkl"))
	d.Crash(0xc0)
	d.Reboot()
	if first(t, d) != "\x00\x00\x00\x00\x00\x00gh\x00\x00\x00\x00" {
		t.Errorf("where the mask lacks: %q", first(t, d))
	}
}

func TestCrashAt(t *testing.T) { // P13.3, P13.4
	d := made(t, 5)
	d.CrashAt(3, 6)
	if d.Write(0, []byte("a")) != api.OK || d.Write(1, full("bcd")) != api.ErrDown || d.Up() || d.Writes() != 3 || d.Pending() != 0 {
		t.Errorf("%d", d.Writes())
	}
	d.Reboot()
	if first(t, d) != "\x00bc\x00\x00" {
		t.Errorf("%q", first(t, d))
	}
	if d.Write(0, full("abcde")) != api.OK || d.Flush() != api.OK {
		t.Error("it fell twice")
	}
	d.CrashAt(1, 1)
	d.CrashAt(2)
	d.Crash(255)
	d.Reboot()
	if d.Write(0, []byte("1")) != api.OK || d.Write(0, []byte("2")) != api.ErrDown {
		t.Error("a plan is forgotten by a fall by hand, or not by a later plan")
	}
	d.Reboot()
	if first(t, d) != "abcde" {
		t.Errorf("%q", first(t, d))
	}
	for _, n := range []int{0, -1, math.MinInt, math.MaxInt} {
		d.CrashAt(1)
		d.CrashAt(n)
		if d.Write(0, full("vwxyz")) != api.OK {
			t.Errorf("CrashAt(%d) falls", n)
		}
	}
	d.Crash()
	d.CrashAt(1, 1)
	d.Reboot()
	if d.Write(0, []byte("p")) != api.ErrDown {
		t.Error("a plan of one that is down")
	}
	d.CrashAt(2)
	if d.Write(0, []byte("p")) != api.ErrDown || d.Writes() != 3+5+2+20+1 {
		t.Errorf("%d", d.Writes())
	}
	d.Reboot()
	if d.Write(0, []byte("q")) != api.OK || d.Write(9, []byte("q")) != api.ErrRange || d.Write(0) != api.OK || d.Write(0, []byte("q")) != api.ErrDown {
		t.Error("what is no write counts")
	}
}

func TestTurn(t *testing.T) { // P13.4
	d := made(t, 3)
	for _, bit := range []int{0, 9, 8*api.Sector - 1} {
		if !d.Turn(1, bit) {
			t.Errorf("%d", bit)
		}
	}
	b, _ := d.Read(1)
	if b[0] != 1 || b[1] != 2 || b[255] != 128 {
		t.Errorf("%x", b)
	}
	for _, c := range [][2]int{{-1, 0}, {3, 0}, {0, -1}, {0, 8 * api.Sector}, {math.MaxInt, 0}, {0, math.MaxInt}, {math.MinInt, math.MinInt}} {
		if d.Turn(c[0], c[1]) {
			t.Errorf("%v", c)
		}
	}
	d.Write(0, []byte("a"))
	if d.Turn(1, 0) {
		t.Error("a write is pending")
	}
	d.Crash()
	if !d.Turn(1, 0) {
		t.Error("it is down")
	}
	d.Reboot()
	d.Write(0, []byte("a"))
	d.Crash()
	d.Reboot()
	if b, _ := d.Read(1); b[0] != 0 || b[1] != 2 {
		t.Errorf("not durable: %x", b)
	}
}

func TestCopy(t *testing.T) { // P13.4
	d := made(t, 3)
	d.Write(0, []byte("a"))
	d.Flush()
	d.CrashAt(2, 3)
	d.Write(0, []byte("b"))
	c := d.Copy()
	d.Flush()
	d.CrashAt(0)
	d.Write(2, []byte("!"))
	if c.Pending() != 1 || c.Writes() != 2 || !c.Up() || first(t, c) != "b\x00\x00" {
		t.Error("it is another")
	}
	if c.Write(1, []byte("c")) != api.ErrDown {
		t.Error("it does not fall")
	}
	c.Reboot()
	if first(t, c) != "bc\x00" || first(t, d) != "b\x00!" || !d.Up() {
		t.Errorf("%q, %q", first(t, c), first(t, d))
	}
	// What is pending, and the mask of a plan, are no longer shared.
	d.Crash()
	d.Reboot()
	d.Write(0, []byte("0"))
	d.Write(0, []byte("1"))
	d.Write(1, []byte("1"))
	one, two := d.Copy(), d.Copy()
	one.Write(0, []byte("2"))
	two.Write(1, []byte("3"))
	for _, x := range []*disk.Disk{d, one, two} {
		x.Crash(15)
		x.Reboot()
	}
	if first(t, d)[:2] != "11" || first(t, one)[:2] != "21" || first(t, two)[:2] != "13" {
		t.Errorf("%q, %q, %q", first(t, d), first(t, one), first(t, two))
	}
	c.Crash()
	if c.Copy().Up() {
		t.Error("a copy of one that is down is up")
	}
}

func TestBehindACrash(t *testing.T) { // P13.6
	r := rand.New(rand.NewSource(13))
	for range 300 {
		d := made(t, 3+r.Intn(4))
		d.Write(0, full("abcdefg"[:d.Sectors()]))
		d.Flush()
		may := make([][]byte, d.Sectors())
		for k := range may {
			may[k] = []byte{"abcdefg"[k]}
		}
		for range r.Intn(12) {
			k, c := r.Intn(d.Sectors()), byte(r.Intn(256))
			d.Write(k, []byte{c})
			may[k] = append(may[k], c)
		}
		d.Crash(byte(r.Intn(256)), byte(r.Intn(256)))
		d.Reboot()
		for k, c := range []byte(first(t, d)) {
			if !slices.Contains(may[k], c) {
				t.Fatalf("sector %d: %q", k, c)
			}
		}
	}
}

func TestListsAreNew(t *testing.T) { // P13.5
	d := made(t, 3)
	b, mask := []byte("abc"), []byte{1, 0}
	d.CrashAt(1, mask...)
	mask[0] = 0
	d.Write(0, b[:2])
	b[0] = '!'
	d.Reboot()
	g, _ := d.Read(0)
	if string(g[:3]) != "ab\x00" || string(b) != "!bc" {
		t.Errorf("%q, %q", g[:3], b)
	}
	g[0] = '?'
	_ = append(g, "more"...)
	if first(t, d) != "a\x00\x00" {
		t.Errorf("%q", first(t, d))
	}
}
