package md_test

import (
	"bytes"
	"crypto/sha512"
	"encoding/hex"
	"math/rand"
	"slices"
	"strings"
	"testing"

	"rhizome/api"
	"rhizome/md"
	"rhizome/name"
	"rhizome/rdata"
)

const (
	ex   = "\x07example\x00"
	ns   = "\x02ns\x07example\x00"
	addr = "\xc0\x00\x02\x01"
)

func rr(n string, kind, ttl int, data string) api.RR {
	return api.RR{Name: n, Type: kind, Class: api.IN, TTL: ttl, Data: data}
}

func soa(serial int) string {
	d, _ := rdata.PutSoa(rdata.Soa{M: ns, R: ex, Serial: serial, Refresh: 1800, Retry: 900, Expire: 604800, Min: 86400})
	return d
}

func zone() []api.RR {
	return []api.RR{rr(ns, api.A, 3600, addr), rr(ex, api.SOA, 86400, soa(5)), rr(ex, api.NS, 86400, ns), rr("\x01z\x01a\x07example\x00", api.TXT, 9, "\x01t")}
}

func form(r api.RR) string {
	return r.Name + string([]byte{
		byte(r.Type >> 8), byte(r.Type), byte(r.Class >> 8), byte(r.Class), byte(r.TTL >> 24), byte(r.TTL >> 16), byte(r.TTL >> 8), byte(r.TTL), byte(len(r.Data) >> 8), byte(len(r.Data)),
	}) + r.Data
}

func digest(l ...api.RR) []byte {
	var s strings.Builder
	for _, r := range l {
		s.WriteString(form(r))
	}
	d := sha512.Sum384([]byte(s.String()))
	return d[:]
}

func TestForm(t *testing.T) { // P9.1
	r := api.RR{Name: ns, Type: 258, Class: 515, TTL: 0x01020304, Data: strings.Repeat("d", 515)}
	if s, e := md.Form(r); s != ns+"\x01\x02\x02\x03\x01\x02\x03\x04\x02\x03"+r.Data || e != api.OK {
		t.Errorf("%x, %d", s, e)
	}
	for _, r := range []api.RR{{}, rr("x", api.A, 1, addr), rr(ex, api.A, 1, "123"), rr(ex, api.OPT, 1, ""), rr(ex, api.A, -1, addr), rr(ex, api.A, 1<<31, addr)} {
		if s, e := md.Form(r); s != "" || e != api.ErrForm {
			t.Errorf("%v: %x, %d", r, s, e)
		}
	}
}

func TestDigestOfRFC8976(t *testing.T) { // P9.2: appendix A.1
	l := []api.RR{
		{Name: ex, Type: api.SOA, Class: 1, TTL: 86400}, rr(ex, api.NS, 86400, "\x03ns1\x07example\x00"), rr(ex, api.NS, 86400, "\x03ns2\x07example\x00"),
		rr("\x03ns1\x07example\x00", api.A, 3600, "\xcb\x00\x71\x3f"), rr("\x03ns2\x07example\x00", api.AAAA, 3600, "\x20\x01\x0d\xb8"+strings.Repeat("\x00", 11)+"\x63"),
	}
	l[0].Data, _ = rdata.PutSoa(rdata.Soa{M: "\x03ns1\x07example\x00", R: "\x05admin\x07example\x00", Serial: 2018031900, Refresh: 1800, Retry: 900, Expire: 604800, Min: 86400})
	d, e := md.Digest(ex, l...)
	if e != api.OK || hex.EncodeToString(d) != "c68090d90a7aed716bc459f9340e3d7c1370d4d24b7e2fc3a1ddc0b9a87153b9a9713b3c9ae5cc27777f98b8e730044c" {
		t.Errorf("%x, %d", d, e)
	}
}

func TestDigestOrderAndWhatCounts(t *testing.T) { // P9.2
	z := zone()
	want := []api.RR{z[2], z[1], z[3], z[0]}
	got, e := md.Digest(ex, z...)
	if !bytes.Equal(got, digest(want...)) || e != api.OK {
		t.Errorf("%x, %d", got, e)
	}
	sum := strings.Repeat("s", 48)
	none := []api.RR{
		rr("\x05other\x00", api.A, 1, addr), rr("\x00", api.NS, 1, ns), rr(ex, api.ZONEMD, 1, "\x00\x00\x00\x05\x01\x01"+sum), rr(ex, api.ZONEMD, 1, "\x00\x00\x00\x05\x02\x02"+sum),
		{Name: ex, Type: api.ZONEMD, Class: 3, Data: "\x00\x00\x00\x05\x01\x01" + sum}, rr(ex, api.RRSIG, 1, "\x00\x3f"), rr(ex, api.RRSIG, 1, "\x00\x3frest"), z[0], z[1],
	}
	if d, _ := md.Digest(ex, append(zone(), none...)...); !bytes.Equal(d, got) {
		t.Error("what does not count counts")
	}
	for i, r := range []api.RR{
		rr(ns, api.ZONEMD, 1, "\x00\x00\x00\x05\x01\x01"+sum), rr(ex, api.RRSIG, 1, "\x00\x3e"), rr(ex, api.RRSIG, 1, "\x00"), rr(ex, api.RRSIG, 1, ""), rr(ns, api.RRSIG, 1, "\x00\x3f"), rr(ns, api.A, 3599, addr),
		rr(ex, api.TXT, 1, "\x00"), rr(ex, 300, 1, "\x00\x3f"), {Name: ns, Type: api.A, Class: 3, TTL: 3600, Data: addr},
	} {
		if d, e := md.Digest(ex, append(zone(), r)...); bytes.Equal(d, got) || e != api.OK {
			t.Errorf("case %d does not count", i)
		}
	}
	// By name, class, type, data, TTL.
	rising := []api.RR{
		{Name: ex, Type: 9, Class: 1, TTL: 7, Data: "z"}, {Name: ex, Type: 8, Class: 2, TTL: 7, Data: "z"}, {Name: ex, Type: 9, Class: 2, TTL: 7, Data: ""}, {Name: ex, Type: 9, Class: 2, TTL: 6, Data: "a"},
		{Name: ex, Type: 9, Class: 2, TTL: 7, Data: "a"}, {Name: ex, Type: 9, Class: 2, TTL: 5, Data: "ab"}, {Name: ns, Type: 1, Class: 0, TTL: 1, Data: addr}, {Name: "\x01a\x01a\x07example\x00", Type: 9}, {Name: "\x01b\x07example\x00", Type: 9},
	}
	slices.SortStableFunc(rising, func(a, b api.RR) int { return name.Compare(a.Name, b.Name) })
	r := rand.New(rand.NewSource(3))
	for range 50 {
		l := slices.Clone(rising)
		r.Shuffle(len(l), func(i, j int) { l[i], l[j] = l[j], l[i] })
		if d, _ := md.Digest(ex, l...); !bytes.Equal(d, digest(rising...)) {
			t.Fatalf("%v", l)
		}
	}
	for _, c := range []struct {
		apex string
		r    api.RR
		e    api.Errno
	}{{"", rr("", 1, 1, ""), api.ErrName}, {"\x01A\x00", z[0], api.ErrName}, {ex, rr("\x05other\x00", api.A, 1, "123"), api.ErrForm}, {ex, rr(ex, api.ZONEMD, 1, "x"), api.ErrForm}} {
		l := append(zone(), c.r)
		if d, e := md.Digest(c.apex, l...); len(d) > 0 || e != c.e {
			t.Errorf("%q: %d", c.apex, e)
		}
		if e := md.Check(c.apex, l...); e != c.e {
			t.Errorf("Check %q: %d", c.apex, e)
		}
		if s, e := md.Sign(c.apex, l...); len(s) > 0 || e != c.e {
			t.Errorf("Sign %q: %d", c.apex, e)
		}
	}
}

func TestCheck(t *testing.T) { // P9.3
	d, _ := md.Digest(ex, zone()...)
	zonemd := func(serial, scheme, hash int, digest string) api.RR {
		data, e := rdata.PutMd(rdata.Md{Serial: serial, Scheme: scheme, Hash: hash, Digest: digest})
		if e != api.OK {
			t.Fatal(e)
		}
		return rr(ex, api.ZONEMD, 7, data)
	}
	good, wrong := zonemd(5, 1, 1, string(d)), zonemd(5, 1, 1, strings.Repeat("w", 48))
	late := good
	late.TTL = 8
	second := rr(ex, api.SOA, 86400, soa(6))
	otherTTL := rr(ex, api.SOA, 86401, soa(5))
	for i, c := range []struct {
		l []api.RR
		e api.Errno
	}{
		{nil, api.ErrZone}, {zone(), api.ErrNone}, {append(zone(), good), api.OK}, {append(zone(), good, good), api.OK}, {append(zone(), zone()[1], good), api.OK}, {append(zone(), wrong), api.ErrSum},
		{append(zone(), good, wrong), api.ErrNone}, {append(zone(), good, late), api.ErrNone}, {append(zone(), zonemd(6, 1, 1, string(d))), api.ErrSerial}, {append(zone(), zonemd(6, 1, 1, strings.Repeat("w", 48))), api.ErrSerial},
		{append(zone(), zonemd(5, 2, 1, string(d))), api.ErrNone}, {append(zone(), zonemd(5, 1, 2, string(d))), api.ErrNone}, {append(zone(), good, zonemd(5, 2, 1, string(d)), zonemd(9, 1, 2, string(d))), api.OK},
		{append(zone(), good, second), api.ErrZone}, {append(zone(), good, otherTTL), api.ErrZone}, {append(zone()[2:], good), api.ErrZone}, {[]api.RR{good}, api.ErrZone},
		{append(zone(), rr(ns, api.ZONEMD, 7, good.Data)), api.ErrNone}, {append(zone(), good, rr(ns, api.A, 1, addr)), api.ErrSum}, {append(zone()[1:], good), api.ErrSum},
		{append(zone(), good, rr("\x05other\x00", api.SOA, 1, soa(9))), api.OK},
	} {
		if e := md.Check(ex, c.l...); e != c.e {
			t.Errorf("case %d: %d", i, e)
		}
	}
}

func TestSign(t *testing.T) { // P9.4
	old := rr(ex, api.ZONEMD, 7, "\x00\x00\x00\x09\x01\x01"+strings.Repeat("o", 48))
	other := rr(ex, api.ZONEMD, 7, "\x00\x00\x00\x09\x02\x01"+strings.Repeat("o", 48))
	below := rr(ns, api.ZONEMD, 7, old.Data)
	far := rr("\x05other\x00", api.A, 1, addr)
	z := zone()
	l, e := md.Sign(ex, z[0], old, z[1], below, z[1], other, z[2], far)
	d, _ := md.Digest(ex, z[0], z[1], z[2], below)
	want := []api.RR{z[0], z[1], below, z[1], z[2], far, rr(ex, api.ZONEMD, 86400, "\x00\x00\x00\x05\x01\x01"+string(d))}
	if !slices.Equal(l, want) || e != api.OK {
		t.Errorf("%v, %d", l, e)
	}
	for i, c := range [][]api.RR{nil, z[2:], {z[0], z[1], rr(ex, api.SOA, 1, soa(6))}, {rr(ns, api.SOA, 1, soa(1))}} {
		if l, e := md.Sign(ex, c...); len(l) > 0 || e != api.ErrZone {
			t.Errorf("case %d: %v, %d", i, l, e)
		}
	}
	chaos := z[1]
	chaos.Class = 3
	if l, e := md.Sign(ex, chaos); e != api.OK || l[1].Class != 3 || md.Check(ex, l...) != api.OK {
		t.Errorf("%v, %d", l, e)
	}
}

func TestCheckOfSign(t *testing.T) { // P9.6
	r := rand.New(rand.NewSource(6))
	for range 100 {
		l := zone()
		for range r.Intn(6) {
			l = append(l, rr("\x01"+string(rune('a'+r.Intn(3)))+ex, 300+r.Intn(2), r.Intn(2), string(rune('a'+r.Intn(2)))))
		}
		s, e := md.Sign(ex, l...)
		if e != api.OK {
			t.Fatal(e)
		}
		r.Shuffle(len(s), func(i, j int) { s[i], s[j] = s[j], s[i] })
		if e := md.Check(ex, s...); e != api.OK {
			t.Fatalf("%v: %d", s, e)
		}
		if e := md.Check(ex, append(s, rr(ns, api.TXT, 1, "\x01n"))...); e != api.ErrSum {
			t.Fatalf("one more: %d", e)
		}
		k := r.Intn(len(s))
		rest := slices.Delete(slices.Clone(s), k, k+1)
		if e := md.Check(ex, rest...); e == api.OK && !slices.Contains(rest, s[k]) {
			t.Fatalf("one less: %v", s[k])
		}
		if again, e := md.Sign(ex, s...); e != api.OK || md.Check(ex, again...) != api.OK || len(again) != len(s) {
			t.Fatalf("%d", e)
		}
	}
}

func TestListsAreNew(t *testing.T) { // P9.5
	l := append(make([]api.RR, 0, 20), zone()...)
	l = append(l, rr(ex, api.ZONEMD, 7, "\x00\x00\x00\x09\x01\x01"+strings.Repeat("o", 48)))
	before := slices.Clone(l[:cap(l)])
	s, _ := md.Sign(ex, l...)
	s[0].Name = "!"
	md.Check(ex, l...)
	d, _ := md.Digest(ex, l...)
	d[0]++
	if !slices.Equal(l[:cap(l)], before) {
		t.Errorf("%v", l)
	}
}
