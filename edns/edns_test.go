package edns_test

import (
	"math"
	"slices"
	"strings"
	"testing"

	"rhizome/api"
	"rhizome/edns"
	"rhizome/wire"
)

const root = "\x00"

var (
	other = api.RR{Name: "\x01a\x00", Type: api.A, Class: 1, TTL: 5, Data: "1234"}
	query = api.Question{Name: "\x01a\x00", Type: 1, Class: 1}
)

func base(l ...api.RR) wire.Message {
	m := wire.Ask(9, query)
	m.An, m.Ns, m.Ar = []api.RR{other, other}, []api.RR{other}, l
	return m
}

func TestPut(t *testing.T) { // P6.1
	for _, c := range []struct {
		o    edns.Opt
		want api.RR
	}{
		{edns.Opt{}, api.RR{Name: root, Type: api.OPT}}, {edns.Opt{Size: 65535, Version: 255, Rcode: 255, Do: true, Data: "x"}, api.RR{Name: root, Type: 41, Class: 65535, TTL: 0xffff8000, Data: "x"}},
		{edns.Opt{Size: 1232, Version: 1}, api.RR{Name: root, Type: 41, Class: 1232, TTL: 1 << 16}}, {edns.Opt{Rcode: 1}, api.RR{Name: root, Type: 41, TTL: 1 << 24}},
		{edns.Opt{Do: true, Data: strings.Repeat("d", 1000)}, api.RR{Name: root, Type: 41, TTL: 1 << 15, Data: strings.Repeat("d", 1000)}},
	} {
		if r, e := edns.Put(c.o); r != c.want || e != api.OK {
			t.Errorf("%v: %v, %d", c.o, r, e)
		}
		m, e := edns.With(base(), c.o)
		if o, ok, f := edns.Get(m); o != c.o || !ok || e != api.OK || f != api.OK {
			t.Errorf("Get of With of %v: %v", c.o, o) // P6.4
		}
	}
	long := strings.Repeat("d", 1001)
	for _, c := range []struct {
		o edns.Opt
		e api.Errno
	}{
		{edns.Opt{Size: -1, Data: long}, api.ErrRange}, {edns.Opt{Size: 65536}, api.ErrRange}, {edns.Opt{Version: -1}, api.ErrRange}, {edns.Opt{Version: 256}, api.ErrRange}, {edns.Opt{Rcode: 256}, api.ErrRange},
		{edns.Opt{Rcode: math.MinInt}, api.ErrRange}, {edns.Opt{Data: long}, api.ErrLong},
	} {
		if r, e := edns.Put(c.o); r != (api.RR{}) || e != c.e {
			t.Errorf("%v: %v, %d", c.o, r, e)
		}
		if m, e := edns.With(base(other), edns.Opt{}, c.o); !wire.Same(m, wire.Message{}) || e != c.e {
			t.Errorf("With of %v: %v, %d", c.o, m, e)
		}
	}
}

func TestGet(t *testing.T) { // P6.1
	one := api.RR{Name: root, Type: api.OPT, Class: 700, TTL: 0x12348000, Data: "d"}
	named := api.RR{Name: "\x01a\x00", Type: api.OPT, Class: 700}
	for i, c := range []struct {
		l  []api.RR
		o  edns.Opt
		ok bool
		e  api.Errno
	}{
		{nil, edns.Opt{}, false, api.OK}, {[]api.RR{other}, edns.Opt{}, false, api.OK}, {[]api.RR{other, one, other}, edns.Opt{700, 0x34, 0x12, true, "d"}, true, api.OK},
		{[]api.RR{one, one}, edns.Opt{}, false, api.ErrTwice}, {[]api.RR{named, one}, edns.Opt{}, false, api.ErrTwice}, {[]api.RR{named}, edns.Opt{}, false, api.ErrForm},
		{[]api.RR{{Name: root, Type: api.OPT, TTL: 0x7f_00ff_7fff}}, edns.Opt{0, 255, 0, false, ""}, true, api.OK}, {[]api.RR{{Name: root, Type: api.OPT, TTL: -1}}, edns.Opt{0, 255, 255, true, ""}, true, api.OK},
	} {
		if o, ok, e := edns.Get(base(c.l...)); o != c.o || ok != c.ok || e != c.e {
			t.Errorf("case %d: %v, %t, %d", i, o, ok, e)
		}
	}
	m := base()
	m.An = append(m.An, one)
	m.Ns = append(m.Ns, one)
	if _, ok, e := edns.Get(m); ok || e != api.OK {
		t.Error("an OPT that is not in Ar")
	}
	if s := edns.Strip(m); !wire.Same(s, m) {
		t.Error("Strip of An and Ns")
	}
}

func TestStripSizeWith(t *testing.T) { // P6.2
	one, _ := edns.Put(edns.Opt{Size: 900})
	if m := edns.Strip(base(one, other, one)); !wire.Same(m, base(other)) {
		t.Errorf("%v", m)
	}
	for i, c := range []struct {
		l                 []api.RR
		least, most, want int
	}{
		{nil, 512, 1232, 512}, {nil, 512, 100, 512}, {[]api.RR{one}, 512, 1232, 900}, {[]api.RR{one}, 1000, 1232, 1000}, {[]api.RR{one}, 512, 800, 800}, {[]api.RR{one}, 512, 100, 100},
		{[]api.RR{one}, 900, 900, 900}, {[]api.RR{one, one}, 512, 1232, 512}, {[]api.RR{one, one}, 512, 100, 512}, {[]api.RR{{Name: "\x01a\x00", Type: api.OPT, Class: 900}}, 512, 1232, 512},
		{[]api.RR{one}, math.MinInt, math.MaxInt, 900},
	} {
		if n := edns.Size(base(c.l...), c.least, c.most); n != c.want {
			t.Errorf("case %d: %d", i, n)
		}
	}
	two, _ := edns.Put(edns.Opt{Size: 7})
	m, e := edns.With(base(one, other), edns.Opt{Size: 7}, edns.Opt{Size: 900})
	if e != api.OK || !wire.Same(m, base(other, two, one)) {
		t.Errorf("%v, %d", m, e)
	}
	if m, e := edns.With(base(one)); e != api.OK || !wire.Same(m, base()) {
		t.Errorf("%v, %d", m, e)
	}
}

func TestListsAreNew(t *testing.T) { // P6.3
	one, _ := edns.Put(edns.Opt{Size: 900})
	room := append(make([]api.RR, 0, 9), one, other, one)
	m := base(room...)
	before := base(slices.Clone(room)...)
	for _, g := range []wire.Message{edns.Strip(m), func() wire.Message { g, _ := edns.With(m, edns.Opt{}); return g }()} {
		g.Q[0].Name, g.An[0].Name, g.Ns[0].Name, g.Ar[0].Name = "", "", "", ""
		_ = append(g.Ar, other, other)
	}
	edns.Get(m)
	if !wire.Same(m, before) {
		t.Errorf("%v", m)
	}
}
