package rdata_test

import (
	"math"
	"slices"
	"strings"
	"testing"

	"rhizome/api"
	"rhizome/rdata"
)

const (
	a    = "\x01a\x00"
	b    = "\x01b\x00"
	root = "\x00"
	top  = 1<<32 - 1
)

func TestSoa(t *testing.T) { // P3.1, P3.5
	s := rdata.Soa{M: a, R: root, Serial: 1, Refresh: top, Retry: 0, Expire: 258, Min: 5}
	want := a + root + "\x00\x00\x00\x01\xff\xff\xff\xff\x00\x00\x00\x00\x00\x00\x01\x02\x00\x00\x00\x05"
	d, e := rdata.PutSoa(s)
	if d != want || e != api.OK {
		t.Fatalf("%x, %d", d, e)
	}
	if g, ok := rdata.GetSoa(d); g != s || !ok {
		t.Errorf("%v, %t", g, ok)
	}
	for _, w := range []rdata.Soa{{M: "", R: a}, {M: a, R: "x"}, {M: "\x01A\x00", R: a}, {M: a, R: "\x01", Serial: -1}} {
		if d, e := rdata.PutSoa(w); d != "" || e != api.ErrName {
			t.Errorf("%v: %x, %d", w, d, e)
		}
	}
	for i := range 5 {
		for _, n := range []int{-1, top + 1, math.MinInt, math.MaxInt} {
			w := s
			*[]*int{&w.Serial, &w.Refresh, &w.Retry, &w.Expire, &w.Min}[i] = n
			if d, e := rdata.PutSoa(w); d != "" || e != api.ErrRange {
				t.Errorf("%v: %x, %d", w, d, e)
			}
		}
	}
	for _, d := range []string{"", a, a + b, want[:len(want)-1], want + "x", "\x01A\x00" + want[3:], a + "\x01" + want[4:], "\x05" + want} {
		if g, ok := rdata.GetSoa(d); ok || g != (rdata.Soa{}) {
			t.Errorf("%x: %v", d, g)
		}
		if rdata.May(api.SOA, d) || len(rdata.Names(api.SOA, d)) > 0 {
			t.Errorf("%x may not be", d)
		}
	}
}

func TestMd(t *testing.T) { // P3.1, P3.5
	for _, m := range []rdata.Md{
		{Serial: top, Scheme: 1, Hash: 1, Digest: strings.Repeat("d", 48)}, {Serial: 0, Scheme: 1, Hash: 2, Digest: strings.Repeat("d", 12)},
		{Serial: 7, Scheme: 255, Hash: 1, Digest: strings.Repeat("d", 994)}, {Serial: 7, Scheme: 0, Hash: 255, Digest: strings.Repeat("d", 47)},
	} {
		d, e := rdata.PutMd(m)
		if e != api.OK || len(d) != 6+len(m.Digest) || int(d[4]) != m.Scheme || int(d[5]) != m.Hash || d[6:] != m.Digest || d[0] != byte(m.Serial>>24) || d[3] != byte(m.Serial) {
			t.Errorf("%v: %x, %d", m, d, e)
		}
		if g, ok := rdata.GetMd(d); g != m || !ok {
			t.Errorf("%v: %v, %t", m, g, ok)
		}
	}
	for _, m := range []rdata.Md{
		{Serial: -1, Scheme: 2, Digest: "short"}, {Serial: top + 1, Digest: strings.Repeat("d", 48)}, {Scheme: 256}, {Scheme: -1}, {Hash: 256}, {Hash: -1},
	} {
		if d, e := rdata.PutMd(m); d != "" || e != api.ErrRange {
			t.Errorf("%v: %x, %d", m, d, e)
		}
	}
	for _, m := range []rdata.Md{
		{Scheme: 1, Hash: 1, Digest: strings.Repeat("d", 47)}, {Scheme: 1, Hash: 1, Digest: strings.Repeat("d", 49)}, {Scheme: 2, Hash: 1, Digest: strings.Repeat("d", 11)},
		{Scheme: 2, Hash: 1, Digest: strings.Repeat("d", 995)}, {},
	} {
		if d, e := rdata.PutMd(m); d != "" || e != api.ErrForm {
			t.Errorf("%v: %x, %d", m, d, e)
		}
	}
	for _, d := range []string{"", "12345", "123456", "\x00\x00\x00\x00\x01\x01" + strings.Repeat("d", 12), "\x00\x00\x00\x00\x01\x02" + strings.Repeat("d", 11), strings.Repeat("d", 1001)} {
		if g, ok := rdata.GetMd(d); ok || g != (rdata.Md{}) {
			t.Errorf("%x: %v", d, g)
		}
	}
}

func TestAddr(t *testing.T) { // P3.2
	if d, e := rdata.Addr(192, 0, 2, 255); d != "\xc0\x00\x02\xff" || e != api.OK || !rdata.May(api.A, d) {
		t.Errorf("%x, %d", d, e)
	}
	if d, e := rdata.Addr(make([]int, 16)...); d != strings.Repeat("\x00", 16) || e != api.OK || !rdata.May(api.AAAA, d) {
		t.Errorf("%x, %d", d, e)
	}
	for _, l := range [][]int{nil, {1}, {1, 2, 3}, {1, 2, 3, 4, 5}, {1, 2, 3, 256}, {-1, 2, 3, 4}, make([]int, 15), make([]int, 17), {math.MinInt, 0, 0, 0}} {
		if d, e := rdata.Addr(l...); d != "" || e != api.ErrRange {
			t.Errorf("%v: %x, %d", l, d, e)
		}
	}
}

func TestText(t *testing.T) { // P3.2
	full := strings.Repeat("t", 255)
	for _, c := range []struct {
		l    []string
		want string
		e    api.Errno
	}{
		{[]string{"ab", "", "c"}, "\x02ab\x00\x01c", api.OK}, {[]string{""}, "\x00", api.OK}, {[]string{full}, "\xff" + full, api.OK}, {nil, "", api.ErrForm},
		{[]string{full + "t"}, "", api.ErrLong}, {[]string{full, full, full, full[:231]}, "\xff" + full + "\xff" + full + "\xff" + full + "\xe7" + full[:231], api.OK},
		{[]string{full, full, full, full[:232]}, "", api.ErrLong}, {make([]string, 1000), strings.Repeat("\x00", 1000), api.OK}, {make([]string, 1001), "", api.ErrLong},
	} {
		d, e := rdata.Text(c.l...)
		if d != c.want || e != c.e || rdata.May(api.TXT, d) != (e == api.OK) {
			t.Errorf("Text of %d: %x, %d", len(c.l), d, e)
		}
	}
}

func TestMay(t *testing.T) { // P3.3
	many := strings.Repeat("m", 1000)
	for _, c := range []struct {
		kind int
		data string
		want bool
	}{
		{api.A, "1234", true}, {api.A, "123", false}, {api.A, "12345", false}, {api.A, "", false},
		{api.AAAA, many[:16], true}, {api.AAAA, many[:15], false}, {api.AAAA, many[:17], false},
		{api.NS, a, true}, {api.NS, root, true}, {api.NS, "", false}, {api.NS, a + "x", false}, {api.CNAME, a, true}, {api.CNAME, "\x01A\x00", false},
		{api.MX, "\x00\x05" + a, true}, {api.MX, "\x00\x05", false}, {api.MX, "\x00", false}, {api.MX, "", false}, {api.MX, "\x00\x05" + a + "x", false},
		{api.TXT, "", false}, {api.TXT, "\x00", true}, {api.TXT, "\x01", false}, {api.TXT, "\x01ab", false}, {api.TXT, "\x01a\x01", false},
		{0, "", true}, {0, many, true}, {0, many + "m", false}, {65535, many, true}, {65535, "", true}, {65536, "", false}, {-1, "", false}, {math.MaxInt, "", false},
		{math.MinInt, "", false}, {api.OPT, many, true}, {api.ANY, "", true}, {api.DS, "", true}, {api.RRSIG, many, true},
	} {
		if rdata.May(c.kind, c.data) != c.want {
			t.Errorf("May(%d, %.20q)", c.kind, c.data)
		}
	}
}

func TestNamesAndTarget(t *testing.T) { // P3.3
	soa, _ := rdata.PutSoa(rdata.Soa{M: a, R: b})
	for _, c := range []struct {
		kind   int
		data   string
		names  []string
		target string
	}{
		{api.NS, a, []string{a}, a}, {api.CNAME, b, []string{b}, b}, {api.MX, "\x00\x01" + b, []string{b}, b}, {api.SOA, soa, []string{a, b}, ""},
		{api.NS, "a", nil, ""}, {api.MX, "\x00\x01a", nil, ""}, {api.TXT, a, nil, ""}, {0, a, nil, ""}, {-1, a, nil, ""}, {api.SOA, a, nil, ""}, {12, a, nil, ""},
	} {
		if l := rdata.Names(c.kind, c.data); !slices.Equal(l, c.names) {
			t.Errorf("Names(%d, %q): %q", c.kind, c.data, l)
		}
		if n, ok := rdata.Target(c.kind, c.data); n != c.target || ok != (c.target != "") {
			t.Errorf("Target(%d, %q): %q", c.kind, c.data, n)
		}
	}
}

func TestMayRR(t *testing.T) { // P3.3
	good := api.RR{Name: a, Type: api.A, Class: api.IN, TTL: 5, Data: "1234"}
	for _, c := range []struct {
		change func(r *api.RR)
		want   bool
	}{
		{func(r *api.RR) {}, true}, {func(r *api.RR) { r.Name = "A" }, false}, {func(r *api.RR) { r.Name = root }, true},
		{func(r *api.RR) { r.Type = api.OPT }, false}, {func(r *api.RR) { r.Type = api.AXFR }, false}, {func(r *api.RR) { r.Type = api.ANY }, false},
		{func(r *api.RR) { r.Type = 0 }, true}, {func(r *api.RR) { r.Type = 65535 }, true}, {func(r *api.RR) { r.Type = 65536 }, false}, {func(r *api.RR) { r.Type = -1 }, false},
		{func(r *api.RR) { r.Class = 0 }, true}, {func(r *api.RR) { r.Class = 65535 }, true}, {func(r *api.RR) { r.Class = 65536 }, false}, {func(r *api.RR) { r.Class = -1 }, false},
		{func(r *api.RR) { r.TTL = 0 }, true}, {func(r *api.RR) { r.TTL = 1<<31 - 1 }, true}, {func(r *api.RR) { r.TTL = 1 << 31 }, false}, {func(r *api.RR) { r.TTL = -1 }, false},
		{func(r *api.RR) { r.Data = "123" }, false},
	} {
		r := good
		c.change(&r)
		if rdata.MayRR(r) != c.want {
			t.Errorf("MayRR(%v)", r)
		}
	}
}

func TestListsAreNew(t *testing.T) { // P3.4
	soa, _ := rdata.PutSoa(rdata.Soa{M: a, R: b})
	rdata.Names(api.SOA, soa)[0] = "x"
	if l := rdata.Names(api.SOA, soa); l[0] != a {
		t.Errorf("%q", l)
	}
	l := []int{1, 2, 3, 4, 9}
	texts := []string{"a", "b"}
	rdata.Addr(l[:4]...)
	rdata.Text(texts[:1]...)
	if !slices.Equal(l, []int{1, 2, 3, 4, 9}) || texts[1] != "b" {
		t.Errorf("%v, %q", l, texts)
	}
}
