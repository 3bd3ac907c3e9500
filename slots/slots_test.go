package slots_test

import (
	"hash/crc32"
	"math"
	"slices"
	"strings"
	"testing"

	"rhizome/api"
	"rhizome/disk"
	"rhizome/image"
	"rhizome/rdata"
	"rhizome/slots"
	"rhizome/zone"
)

const (
	ex  = "\x02ex\x00"
	top = 1<<48 - 1

	maxTime = "\x01\x00\x00\x00\x00\x00" // api.MaxTime, 2^40, in six bytes
)

// made makes a zone whose image takes some sectors.
func made(t *testing.T, serial, size int) *zone.Zone {
	soa, _ := rdata.PutSoa(rdata.Soa{M: ex, R: ex, Serial: serial})
	l := []api.RR{{Name: ex, Type: api.SOA, Class: 1, TTL: 5, Data: soa}, {Name: ex, Type: api.NS, Class: 1, TTL: 5, Data: ex}}
	for i := 0; size > 0; i++ {
		n := min(size, 900)
		l = append(l, api.RR{Name: ex, Type: 300 + i, Class: 1, Data: strings.Repeat("d", n)})
		size -= n
	}
	z, e := zone.New(ex, l...)
	if e != api.OK {
		t.Fatal(e)
	}
	return z
}

func formatted(t *testing.T, sectors int) *disk.Disk {
	d, e := disk.New(sectors)
	if e != api.OK || slots.Format(d) != api.OK {
		t.Fatal(e)
	}
	return d
}

func opened(t *testing.T, d *disk.Disk) *slots.Store {
	s, e := slots.Open(d)
	if e != api.OK || s.Disk() != d {
		t.Fatal(e)
	}
	return s
}

// serial tells which zone a store has: -1, if it is empty.
func serial(t *testing.T, s *slots.Store) int {
	i, ok := s.Image()
	if ok != (i != nil) || !ok && s.Super != (slots.Super{}) {
		t.Fatalf("%v", s.Super)
	}
	if !ok {
		return -1
	}
	if _, e := i.Zone(); e != api.OK || i.Len() != s.Size {
		t.Fatalf("%d", e)
	}
	return i.Serial
}

func TestSuper(t *testing.T) { // P15.1
	u := slots.Super{Gen: 0x010203040506, Slot: 1, Size: 0x0a0b0c, Time: api.MaxTime, Sum: 1<<32 - 1}
	ahead := "RS" + "\x01\x02\x03\x04\x05\x06" + "\x01" + "\x0a\x0b\x0c" + maxTime + "\xff\xff\xff\xff"
	crc := crc32.ChecksumIEEE([]byte(ahead))
	want := ahead + string([]byte{byte(crc >> 24), byte(crc >> 16), byte(crc >> 8), byte(crc)}) + strings.Repeat("\x00", 256-26)
	b, e := u.Bytes()
	if string(b) != want || e != api.OK {
		t.Errorf("%x, %d", b, e)
	}
	for _, u := range []slots.Super{u, {Gen: 1}, {Gen: top, Size: 1<<24 - 1, Slot: 1}} {
		b, e := u.Bytes()
		if g, ok := slots.Read(b); !ok || g != u || e != api.OK {
			t.Errorf("%v: %v, %d", u, g, e)
		}
	}
	for _, u := range []slots.Super{
		{}, {Gen: -1}, {Gen: top + 1}, {Gen: 1, Slot: 2}, {Gen: 1, Slot: -1}, {Gen: 1, Size: -1}, {Gen: 1, Size: 1 << 24}, {Gen: 1, Time: -1}, {Gen: 1, Time: api.MaxTime + 1}, {Gen: 1, Sum: -1}, {Gen: 1, Sum: 1 << 32}, {Gen: math.MinInt},
	} {
		if b, e := u.Bytes(); len(b) > 0 || e != api.ErrRange {
			t.Errorf("%v: %d", u, e)
		}
	}
	for k := range b {
		for _, bit := range []byte{1, 16, 128} {
			c := slices.Clone(b)
			c[k] ^= bit
			if g, ok := slots.Read(c); ok || g != (slots.Super{}) {
				t.Errorf("byte %d: %v", k, g)
			}
		}
	}
	for _, c := range [][]byte{nil, b[:255], append(slices.Clone(b), 0), make([]byte, 256)} {
		if g, ok := slots.Read(c); ok || g != (slots.Super{}) {
			t.Errorf("%d bytes: %v", len(c), g)
		}
	}
	// A sector whose check sum is right, of what may not be.
	bad := []byte("RS\x00\x00\x00\x00\x00\x00\x00\x00\x00\x00\x00\x00\x00\x00\x00\x00\x00\x00\x00\x00")
	crc = crc32.ChecksumIEEE(bad)
	bad = append(append(bad, byte(crc>>24), byte(crc>>16), byte(crc>>8), byte(crc)), make([]byte, 230)...)
	if g, ok := slots.Read(bad); ok {
		t.Errorf("%v", g)
	}
}

func TestFormatAndOpen(t *testing.T) { // P15.2
	d := formatted(t, 20)
	s := opened(t, d)
	if serial(t, s) != -1 || s.Room() != 9*256 || d.Pending() != 0 {
		t.Errorf("%d", s.Room())
	}
	for sectors, room := range map[int]int{3: 256, 4: 256, 5: 512, 2048: 1023 * 256} {
		if s := opened(t, formatted(t, sectors)); s.Room() != room {
			t.Errorf("%d: %d", sectors, s.Room())
		}
	}
	if s.Install(made(t, 9, 0), 7) != api.OK || s.Gen != 1 || s.Slot != 0 || s.Time != 7 {
		t.Errorf("%v", s.Super)
	}
	o := opened(t, d)
	if serial(t, o) != 9 || o.Super != s.Super {
		t.Errorf("%v", o.Super)
	}
	image, _ := d.Read(1)
	if slots.Format(d) != api.OK || serial(t, opened(t, d)) != -1 || serial(t, s) != 9 {
		t.Error("Format")
	}
	b, _ := d.Read(0)
	after, _ := d.Read(1)
	if string(b) != strings.Repeat("\x00", 256) || string(after) != string(image) || d.Pending() != 0 {
		t.Error("Format writes sector 0 alone")
	}
	d.Crash()
	if s, e := slots.Open(d); s != nil || e != api.ErrDown || slots.Format(d) != api.ErrDown {
		t.Errorf("%d", e)
	}
	d.Reboot()
	d.CrashAt(1)
	if slots.Format(d) != api.ErrDown {
		t.Error("Format of one that falls")
	}
	// What was there before it was ever formatted counts for nothing.
	raw, _ := disk.New(9)
	raw.Write(0, []byte("rubbish"))
	if serial(t, opened(t, raw)) != -1 {
		t.Error("rubbish")
	}
}

// put lays an image and a Super down by hand.
func put(t *testing.T, d *disk.Disk, at int, bytes string, u slots.Super) {
	b, e := u.Bytes()
	if e != api.OK || d.Write(at, []byte(bytes)) != api.OK || d.Write(0, b) != api.OK {
		t.Fatal(e)
	}
}

func TestOpenTakesWhatFits(t *testing.T) { // P15.2
	bytes, _ := image.Encode(made(t, 5, 600))
	sum := int(crc32.ChecksumIEEE([]byte(bytes)))
	good := slots.Super{Gen: 4, Slot: 0, Size: len(bytes), Time: 3, Sum: sum}
	for i, c := range []struct {
		at     int
		bytes  string
		change func(u *slots.Super)
		want   int
	}{
		{1, bytes, func(u *slots.Super) {}, 5}, {4, bytes, func(u *slots.Super) { u.Slot = 1 }, 5}, {4, bytes, func(u *slots.Super) {}, -1}, {1, bytes, func(u *slots.Super) { u.Slot = 1 }, -1}, {1, bytes, func(u *slots.Super) { u.Sum++ }, -1}, {1, bytes, func(u *slots.Super) { u.Size++ }, -1},
		{1, bytes, func(u *slots.Super) { u.Size-- }, -1}, {1, bytes, func(u *slots.Super) { u.Size = 0; u.Sum = 0 }, -1}, {1, bytes, func(u *slots.Super) { u.Size = 1<<24 - 1 }, -1}, {1, bytes, func(u *slots.Super) { u.Size = 256 * 8; u.Sum = 1 }, -1},
		{1, "rubbish", func(u *slots.Super) { u.Size = 7; u.Sum = int(crc32.ChecksumIEEE([]byte("rubbish"))) }, -1},
	} {
		d := formatted(t, 8) // slots of 3 sectors
		u := good
		c.change(&u)
		put(t, d, c.at, c.bytes, u)
		s := opened(t, d)
		if serial(t, s) != c.want || c.want >= 0 && s.Super != u {
			t.Errorf("case %d: %v", i, s.Super)
		}
	}
	// An image that goes on beyond its slot is read there, too.
	bytes, _ = image.Encode(made(t, 6, 1100))
	d := formatted(t, 8)
	put(t, d, 1, bytes, slots.Super{Gen: 1, Size: len(bytes), Sum: int(crc32.ChecksumIEEE([]byte(bytes)))})
	if s := opened(t, d); serial(t, s) != 6 || len(bytes) <= s.Room() {
		t.Errorf("%v", s.Super)
	}
}

func TestInstall(t *testing.T) { // P15.3
	d := formatted(t, 12) // slots of 5 sectors
	s := opened(t, d)
	small, big, over := made(t, 1, 0), made(t, 2, 1280-180), made(t, 3, 1280)
	for _, time := range []int{-1, api.MaxTime + 1, math.MinInt} {
		if s.Install(nil, time) != api.ErrRange || s.Touch(time) != api.ErrRange {
			t.Errorf("%d", time)
		}
	}
	writes := d.Writes()
	if s.Install(nil, 0) != api.ErrNone || s.Touch(0) != api.ErrNone || s.Install(over, 0) != api.ErrFull || d.Writes() != writes {
		t.Error("Install of none")
	}
	for i, c := range []struct {
		z    *zone.Zone
		time int
		slot int
	}{{small, 0, 0}, {big, api.MaxTime, 1}, {small, 5, 0}, {small, 5, 1}} {
		if e := s.Install(c.z, c.time); e != api.OK {
			t.Fatalf("case %d: %d", i, e)
		}
		bytes, _ := image.Encode(c.z)
		want := slots.Super{Gen: i + 1, Slot: c.slot, Size: len(bytes), Time: c.time, Sum: int(crc32.ChecksumIEEE([]byte(bytes)))}
		if s.Super != want || serial(t, s) != c.z.Soa().Serial || d.Pending() != 0 {
			t.Errorf("case %d: %v", i, s.Super)
		}
		if b, _ := d.Read(1 + 5*c.slot); string(b)[:8] != bytes[:8] {
			t.Errorf("case %d: not in its slot", i)
		}
		if o := opened(t, d); o.Super != want || serial(t, o) != c.z.Soa().Serial {
			t.Errorf("case %d: %v", i, o.Super)
		}
	}
	if s.Install(over, 1) != api.ErrFull || s.Gen != 4 || serial(t, s) != 1 {
		t.Errorf("%v", s.Super)
	}
	before := s.Super
	if s.Touch(99) != api.OK || s.Time != 99 || s.Gen != 5 || s.Slot != before.Slot || s.Sum != before.Sum || opened(t, d).Super != s.Super {
		t.Errorf("%v", s.Super)
	}
}

func TestInstallFillsASlot(t *testing.T) { // P15.2, P15.3
	// With an uneven number of sectors, slot 1 goes up to the disk's end.
	filled := 0
	for size := 1; filled < 3; size++ {
		z := made(t, 1, size)
		bytes, _ := image.Encode(z)
		if len(bytes)%256 != 0 {
			continue
		}
		filled++
		d := formatted(t, 1+2*(len(bytes)/256))
		s := opened(t, d)
		for slot := range 2 {
			if e := s.Install(z, 5); e != api.OK || s.Slot != slot || s.Room() != len(bytes) {
				t.Errorf("slot %d: %d", slot, e)
			}
			if o := opened(t, d); serial(t, o) != 1 || o.Super != s.Super {
				t.Errorf("slot %d is not read", slot)
			}
		}
		if e := s.Install(made(t, 1, size+1), 5); e != api.ErrFull {
			t.Errorf("one byte more: %d", e)
		}
	}
}

func TestTheLastGeneration(t *testing.T) { // P15.3
	bytes, _ := image.Encode(made(t, 5, 0))
	for gen, want := range map[int]api.Errno{top - 1: api.OK, top: api.ErrLimit} {
		for _, touch := range []bool{true, false} {
			d := formatted(t, 12)
			put(t, d, 1, bytes, slots.Super{Gen: gen, Size: len(bytes), Sum: int(crc32.ChecksumIEEE([]byte(bytes)))})
			s := opened(t, d)
			e := api.OK
			if touch {
				e = s.Touch(1)
			} else {
				e = s.Install(made(t, 6, 0), 1)
			}
			if e != want || e == api.OK && s.Gen != top || e != api.OK && (s.Time != 0 || s.Gen != gen) {
				t.Errorf("%d: %d, %v", gen, e, s.Super)
			}
			if e == api.ErrLimit && (s.Install(made(t, 6, 5000), 1) != api.ErrFull || s.Install(nil, 1) != api.ErrNone) {
				t.Error("the order of errors")
			}
		}
	}
}

func TestFalls(t *testing.T) { // P15.5
	for _, old := range []bool{false, true} {
		base := formatted(t, 12)
		s := opened(t, base)
		had := -1
		if old {
			s.Install(made(t, 3, 300), 10)
			had = 3
		}
		next := made(t, 4, 700)
		bytes, _ := image.Encode(next)
		writes := (len(bytes)+255)/256 + 1
		for at := 1; at <= writes+1; at++ {
			for mask := range 1 << writes {
				d := base.Copy()
				s := opened(t, d)
				before := s.Super
				d.CrashAt(at, byte(mask), byte(mask>>8))
				e := s.Install(next, 20)
				if (e == api.OK) != (at > writes) || e != api.OK && (e != api.ErrDown || s.Super != before || serial(t, s) != had) {
					t.Fatalf("at %d: %d", at, e)
				}
				d.Crash(byte(mask))
				d.CrashAt(0)
				d.Reboot()
				o := opened(t, d)
				got := serial(t, o)
				if got != 4 && (e == api.OK || got != had) || got == 4 && o.Time != 20 || got == 3 && o.Time != 10 {
					t.Fatalf("at %d, mask %x: %v", at, mask, o.Super)
				}
				if o.Install(made(t, 5, 0), 30) != api.OK || serial(t, opened(t, d)) != 5 {
					t.Fatalf("at %d, mask %x: it does not go on", at, mask)
				}
			}
		}
	}
	base := formatted(t, 12)
	s := opened(t, base)
	s.Install(made(t, 3, 300), 10)
	for mask := range 2 {
		d := base.Copy()
		s := opened(t, d)
		d.CrashAt(1, byte(mask))
		if s.Touch(20) != api.ErrDown || s.Time != 10 || s.Gen != 1 {
			t.Errorf("%v", s.Super)
		}
		d.Reboot()
		if o := opened(t, d); serial(t, o) != 3 || o.Time != 10+10*mask {
			t.Errorf("%v", o.Super)
		}
	}
}

func TestListsAreNew(t *testing.T) { // P15.4
	u := slots.Super{Gen: 1}
	b, _ := u.Bytes()
	c, _ := u.Bytes()
	b[0] = '!'
	g, _ := slots.Read(c)
	c[2] = '!'
	if string(c[:2]) != "RS" || g != u {
		t.Errorf("%q, %v", c[:2], g)
	}
}
