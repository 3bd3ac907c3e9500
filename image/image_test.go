package image_test

import (
	"hash/crc32"
	"math"
	"math/rand"
	"slices"
	"strings"
	"testing"

	"rhizome/api"
	"rhizome/image"
	"rhizome/name"
	"rhizome/rdata"
	"rhizome/sets"
	"rhizome/zone"
)

const (
	ex   = "\x02ex\x00"
	addr = "\x01\x02\x03\x04"
)

func at(labels ...string) string {
	n, _ := name.Join(append(labels, "ex")...)
	return n
}

func rr(n string, kind, ttl int, data string) api.RR {
	return api.RR{Name: n, Type: kind, Class: api.IN, TTL: ttl, Data: data}
}

func soa() string {
	d, _ := rdata.PutSoa(rdata.Soa{M: ex, R: ex, Serial: 77})
	return d
}

func made(t *testing.T, l ...api.RR) *zone.Zone {
	z, e := zone.New(ex, append([]api.RR{rr(ex, api.SOA, 5, soa()), rr(ex, api.NS, 5, at("a"))}, l...)...)
	if e != api.OK {
		t.Fatal(e)
	}
	return z
}

// random makes a zone with names that lie close to each other.
func random(t *testing.T, r *rand.Rand) *zone.Zone {
	var l []api.RR
	for range r.Intn(25) {
		var labels []string
		for range 1 + r.Intn(3) {
			labels = append(labels, string([]byte{byte('a' + r.Intn(3))}))
		}
		n := at(labels...)
		l = append(l, []api.RR{rr(n, api.A, r.Intn(9), addr), rr(n, api.A, 3, "\x00\x00\x00"+string([]byte{byte(r.Intn(3))})), rr(n, api.NS, 2, n), rr(n, 300, 1, strings.Repeat("d", r.Intn(300)))}[r.Intn(4)])
	}
	return made(t, l...)
}

func opened(t *testing.T, z *zone.Zone) *image.Image {
	s, e := image.Encode(z)
	if e != api.OK {
		t.Fatal(e)
	}
	i, e := image.Open(s)
	if e != api.OK || i.Len() != len(s) {
		t.Fatalf("%d", e)
	}
	return i
}

func summed(s string) string {
	c := crc32.ChecksumIEEE([]byte(s))
	return s + string([]byte{byte(c >> 24), byte(c >> 16), byte(c >> 8), byte(c)})
}

func TestEncode(t *testing.T) { // P14.1
	z := made(t, rr(at("b"), api.A, 258, addr), rr(at("b"), api.A, 258, "\x00\x02\x03\x04"))
	ns := "\x01a\x02ex\x00"
	one := ex + "\x00\x02\x00\x01\x00\x00\x00\x05\x00\x01\x00\x06" + ns
	two := ex + "\x00\x06\x00\x01\x00\x00\x00\x05\x00\x01\x00\x1c" + soa()
	three := "\x01b\x02ex\x00\x00\x01\x00\x01\x00\x00\x01\x02\x00\x02\x00\x04\x00\x02\x03\x04\x00\x04" + addr
	from := 2 + 4 + 2 + 9
	place := func(n int) string { return string([]byte{0, byte(n >> 8), byte(n)}) }
	want := summed("RZ" + ex + "\x00\x03" + place(from) + place(from+len(one)) + place(from+len(one)+len(two)) + one + two + three)
	s, e := image.Encode(z)
	if s != want || e != api.OK {
		t.Errorf("%x, %d\n%x", s, e, want)
	}
	if s, e := image.Encode(nil); s != "" || e != api.ErrNone {
		t.Errorf("%x, %d", s, e)
	}
	i := opened(t, z)
	if i.Meta != (image.Meta{Apex: ex, Serial: 77, Count: 3}) {
		t.Errorf("%v", i.Meta)
	}
}

func TestOpenTakesNoOtherBytes(t *testing.T) { // P14.1
	z := made(t, rr(at("b"), api.A, 5, addr), rr(at("b"), api.A, 5, "\x00\x02\x03\x04"), rr(at("c"), api.TXT, 5, "\x01t"))
	s, _ := image.Encode(z)
	bare := s[:len(s)-4]
	for n := range 11 {
		if i, e := image.Open(s[:n]); i != nil || e != api.ErrShort {
			t.Errorf("%d bytes: %d", n, e)
		}
	}
	if i, e := image.Open("RZ"); i != nil || e != api.ErrShort {
		t.Errorf("the example: %d", e)
	}
	for n := 11; n < len(s); n++ {
		if i, e := image.Open(s[:n]); i != nil || e != api.ErrSum {
			t.Errorf("%d bytes: %d", n, e)
		}
		if i, e := image.Open(summed(s[:n])); n != len(bare) && (i != nil || e != api.ErrForm) {
			t.Errorf("%d bytes, summed: %d", n, e)
		}
	}
	for k := range len(s) {
		for _, bit := range []byte{1, 2, 0x20, 0x80} {
			b := []byte(s)
			b[k] ^= bit
			if i, e := image.Open(string(b)); i != nil || e != api.ErrSum {
				t.Errorf("bit %x of byte %d: %d", bit, k, e)
			}
			if k >= len(bare) {
				continue
			}
			again := summed(string(b[:len(bare)]))
			i, e := image.Open(again)
			if e != api.OK && e != api.ErrForm || (i == nil) != (e != api.OK) {
				t.Errorf("bit %x of byte %d, summed: %d", bit, k, e)
			}
			if e == api.OK {
				y, _ := i.Zone()
				if own, _ := image.Encode(y); own != again {
					t.Errorf("bit %x of byte %d is taken", bit, k)
				}
			}
		}
	}
	none := ex + "\x00\x10\x00\x01\x00\x00\x00\x05\x00\x00"
	for i, w := range []string{
		"", bare + "\x00", "RY" + bare[2:], "RZ" + bare, "RZ\x00\x00\x00\x00\x00", "RZ\x00\xff\xff\x00\x00\x00", "RZ" + strings.Repeat("\x01a", 200), "RZ" + ex + "\x00\x01\x00\x00\x0b" + none,
	} {
		if im, e := image.Open(summed(w)); im != nil || e != api.ErrForm && len(w) > 6 || e == api.OK {
			t.Errorf("case %d: %d", i, e)
		}
	}
	// Sets out of order, places that lead astray.
	b := []byte(bare)
	b[10], b[13] = b[13], b[10]
	if im, e := image.Open(summed(string(b))); im != nil || e != api.ErrForm {
		t.Errorf("%d", e)
	}
}

func TestAnswersAsTheZone(t *testing.T) { // P14.2, P14.4
	r := rand.New(rand.NewSource(14))
	for range 60 {
		z := random(t, r)
		i := opened(t, z)
		all := z.Sets()
		if i.Count != len(all) {
			t.Fatalf("%d", i.Count)
		}
		for k, s := range all {
			if g, ok := i.At(k); !ok || !g.Same(s) {
				t.Fatalf("At(%d): %v", k, g)
			}
			if g, ok := i.Get(s.Key); !ok || !g.Same(s) {
				t.Fatalf("Get(%v): %v", s.Key, g)
			}
		}
		for _, k := range []int{-1, len(all), math.MaxInt, math.MinInt} {
			if g, ok := i.At(k); ok || !g.Same(sets.Set{}) {
				t.Fatalf("At(%d): %v", k, g)
			}
		}
		y, e := i.Zone()
		if e != api.OK || y.Apex() != ex || !slices.Equal(y.Records(), z.Records()) {
			t.Fatalf("%d", e)
		}
		names := []string{"", "\x00", "x", "\x02EX\x00", "\x02ey\x00", "\x02ew\x00", ex, at("zz"), "\x01a\x00"}
		for _, a := range "abcd" {
			for _, b := range "abcd" {
				names = append(names, at(string(a)), at(string(a), string(b)), at("a", string(a), string(b)), at("b", "b", string(a), string(b)))
			}
		}
		for _, n := range names {
			if i.There(n) != z.There(n) {
				t.Fatalf("There(%q): %t", n, i.There(n))
			}
			c, ok := i.Cut(n)
			if d, has := z.Cut(n); ok != has || !c.Same(d) {
				t.Fatalf("Cut(%q): %v", n, c)
			}
			for _, k := range []sets.Key{{Name: n, Type: api.NS, Class: 1}, {Name: n, Type: api.A, Class: 1}, {Name: n, Type: api.A, Class: 2}, {Name: n, Type: -1, Class: -1}, {Name: n, Type: math.MaxInt, Class: 1}} {
				s, ok := i.Get(k)
				if d, has := z.Get(k); ok != has || !s.Same(d) {
					t.Fatalf("Get(%v): %v", k, s)
				}
			}
		}
	}
}

func TestSame(t *testing.T) { // P14.2
	m := image.Meta{Apex: ex, Serial: 1, Count: 2}
	for _, o := range []image.Meta{{}, {ex, 1, 3}, {ex, 2, 2}, {"\x00", 1, 2}} {
		if m.Same(o) || o.Same(m) {
			t.Errorf("%v", o)
		}
	}
	i := opened(t, made(t))
	if !m.Same(m) || !i.Same(i.Meta) || i.Same(m) {
		t.Error("Same")
	}
}

func TestListsAreNew(t *testing.T) { // P14.3
	i := opened(t, made(t))
	s, _ := i.At(0)
	g, _ := i.Get(s.Key)
	s.Data[0] = "!"
	_ = append(g.Data, "!")
	if h, _ := i.At(0); h.Data[0] == "!" || g.Data[0] == "!" {
		t.Errorf("%v", h)
	}
}
