package scrub_test

import (
	"math/rand"
	"slices"
	"testing"

	"rhizome/api"
	"rhizome/cache"
	"rhizome/name"
	"rhizome/rdata"
	"rhizome/scrub"
	"rhizome/sets"
	"rhizome/wire"
)

const (
	com  = "\x03com\x00"
	net  = "\x03net\x00"
	ex   = "\x02ex\x03com\x00"
	www  = "\x03www\x02ex\x03com\x00"
	ns   = "\x02ns\x02ex\x03com\x00"
	far  = "\x02ns\x03net\x00"
	root = "\x00"
	addr = "\x01\x02\x03\x04"
	six  = "\x01\x02\x03\x04\x01\x02\x03\x04\x01\x02\x03\x04\x01\x02\x03\x04"
)

func rr(n string, kind, ttl int, data string) api.RR {
	return api.RR{Name: n, Type: kind, Class: api.IN, TTL: ttl, Data: data}
}

func soa(n string, ttl, least int) api.RR {
	d, _ := rdata.PutSoa(rdata.Soa{M: n, R: n, Min: least})
	return rr(n, api.SOA, ttl, d)
}

// message is one with AA that says no error.
func message(f func(m *wire.Message)) wire.Message {
	m := wire.Message{Header: wire.Header{QR: true, AA: true}}
	f(&m)
	return m
}

func group(rank int, l ...api.RR) []scrub.Ranked {
	var all []scrub.Ranked
	for _, s := range sets.Group(l...) {
		all = append(all, scrub.Ranked{s, rank})
	}
	return all
}

func same(a, b scrub.Out) bool {
	like := func(x, y scrub.Ranked) bool { return x.Set.Same(y.Set) && x.Rank == y.Rank }
	return a.Kind == b.Kind && a.TTL == b.TTL && a.Next == b.Next && slices.EqualFunc(a.Sets, b.Sets, like)
}

func chaos(r api.RR) api.RR {
	r.Class = 3
	return r
}

func TestKinds(t *testing.T) {
	if got := [...]int{scrub.Bad, scrub.Yes, scrub.Alias, scrub.Refer, scrub.NoName, scrub.NoData, scrub.Cut}; got != [...]int{0, 1, 2, 3, 4, 5, 6} {
		t.Errorf("%v", got)
	}
}

func TestWithin(t *testing.T) { // P19.1
	good := []api.RR{rr(www, api.A, 5, addr), rr(com, api.NS, 5, ns), rr(www, api.A, 3, "\x00\x00\x00\x00")}
	bad := []api.RR{rr(net, api.A, 5, addr), rr(root, api.A, 5, addr), chaos(good[0]), rr(www, api.A, 5, "123"), rr(www, api.OPT, 5, ""), rr(www, api.A, -1, addr), rr("\x04xcom\x00", api.A, 5, addr), rr("", api.A, 5, addr)}
	if l := scrub.Within(com, append(bad, good...)...); !slices.EqualFunc(l, sets.Group(good...), sets.Set.Same) || len(l) != 2 {
		t.Errorf("%v", l)
	}
	for _, cut := range []string{"", "com", "\x03COM\x00"} {
		if l := scrub.Within(cut, good...); len(l) != 0 {
			t.Errorf("%q: %v", cut, l)
		}
	}
	if len(scrub.Within(com)) != 0 || len(scrub.Within(root, bad...)) != 3 {
		t.Errorf("%v", scrub.Within(root, bad...))
	}
}

func TestYesAndAlias(t *testing.T) { // P19.2
	a, alias := rr(www, api.A, 5, addr), rr(www, api.CNAME, 6, far)
	second := rr(www, api.CNAME, 6, ns)
	for i, c := range []struct {
		cut  string
		q    api.Question
		m    wire.Message
		want scrub.Out
	}{
		{com, api.Question{Name: www, Type: api.A, Class: 1}, message(func(m *wire.Message) { m.Add(1, alias, a, rr(ns, api.A, 5, addr)) }), scrub.Out{Kind: scrub.Yes, Sets: group(cache.Auth, a)}},
		{com, api.Question{Name: www, Type: api.A, Class: 1}, message(func(m *wire.Message) { m.Add(1, a); m.AA = false }), scrub.Out{Kind: scrub.Yes, Sets: group(cache.Plain, a)}},
		{com, api.Question{Name: www, Type: api.A, Class: 1}, message(func(m *wire.Message) { m.Add(1, a); m.Rcode = api.NXDomain }), scrub.Out{Kind: scrub.Yes, Sets: group(cache.Auth, a)}},
		{net, api.Question{Name: www, Type: api.A, Class: 1}, message(func(m *wire.Message) { m.Add(1, a) }), scrub.Out{Kind: scrub.NoData}},
		{com, api.Question{Name: www, Type: api.A, Class: 3}, message(func(m *wire.Message) { m.Add(1, a, chaos(a)) }), scrub.Out{Kind: scrub.NoData}},
		{com, api.Question{Name: www, Type: api.A, Class: 1}, message(func(m *wire.Message) { m.Add(2, a); m.Add(3, a) }), scrub.Out{Kind: scrub.NoData}},
		{com, api.Question{Name: www, Type: api.A, Class: 1}, message(func(m *wire.Message) { m.Add(1, alias) }), scrub.Out{Kind: scrub.Alias, Sets: group(cache.Auth, alias), Next: far}},
		{com, api.Question{Name: www, Type: api.A, Class: 1}, message(func(m *wire.Message) { m.Add(1, alias); m.AA = false; m.Rcode = api.NXDomain }), scrub.Out{Kind: scrub.Alias, Sets: group(cache.Plain, alias), Next: far}},
		{com, api.Question{Name: www, Type: api.CNAME, Class: 1}, message(func(m *wire.Message) { m.Add(1, alias) }), scrub.Out{Kind: scrub.Yes, Sets: group(cache.Auth, alias)}},
		{com, api.Question{Name: www, Type: api.CNAME, Class: 3}, message(func(m *wire.Message) { m.Add(1, alias) }), scrub.Out{Kind: scrub.NoData}},
		{com, api.Question{Name: www, Type: api.A, Class: 1}, message(func(m *wire.Message) { m.Add(1, alias, second) }), scrub.Out{Kind: scrub.NoData}},
		{com, api.Question{Name: www, Type: api.CNAME, Class: 1}, message(func(m *wire.Message) { m.Add(1, alias, second) }), scrub.Out{Kind: scrub.Yes, Sets: group(cache.Auth, alias, second)}},
		{com, api.Question{Name: www, Type: api.A, Class: 1}, message(func(m *wire.Message) { m.Add(1, chaos(alias)) }), scrub.Out{Kind: scrub.NoData}},
		{net, api.Question{Name: www, Type: api.A, Class: 1}, message(func(m *wire.Message) { m.Add(1, alias) }), scrub.Out{Kind: scrub.NoData}},
		{com, api.Question{Name: www, Type: api.A, Class: 1}, message(func(m *wire.Message) { m.Add(1, a); m.TC = true; m.Rcode = 2 }), scrub.Out{Kind: scrub.Cut}},
		{com, api.Question{Name: www, Type: api.A, Class: 1}, message(func(m *wire.Message) { m.Add(1, a); m.Rcode = 2 }), scrub.Out{}},
		{com, api.Question{Name: www, Type: api.A, Class: 1}, message(func(m *wire.Message) { m.Add(1, a); m.Rcode = 5 }), scrub.Out{}},
		{com, api.Question{Name: "", Type: api.A, Class: 1}, message(func(m *wire.Message) { m.Add(1, a) }), scrub.Out{Kind: scrub.NoData}},
	} {
		if o := scrub.Sort(c.cut, c.q, c.m); !same(o, c.want) {
			t.Errorf("case %d: %v", i, o)
		}
	}
}

func TestRefer(t *testing.T) { // P19.2
	one, two, deep := rr(ex, api.NS, 5, ns), rr(ex, api.NS, 5, far), rr(www, api.NS, 7, ns)
	q := api.Question{Name: www, Type: api.A, Class: 1}
	glue := []api.RR{rr(ns, api.A, 5, addr), rr(ns, api.AAAA, 5, six)}
	plain := func(l ...api.RR) func(m *wire.Message) {
		return func(m *wire.Message) {
			m.AA = false
			m.Add(2, l...)
			m.Add(3, append([]api.RR{rr(www, api.A, 5, addr), rr(far, api.A, 5, addr), rr(ns, api.TXT, 5, "\x00"), chaos(glue[0]), rr("\x00", api.OPT, 0, "")}, glue...)...)
		}
	}
	with := func(l ...api.RR) scrub.Out {
		return scrub.Out{Kind: scrub.Refer, Sets: append(group(cache.Referral, l...), group(cache.Glue, glue...)...)}
	}
	ds := api.Question{Name: www, Type: api.DS, Class: 1}
	for i, c := range []struct {
		cut  string
		q    api.Question
		m    wire.Message
		want scrub.Out
	}{
		{com, q, message(plain(one, two)), with(one, two)}, {com, q, message(plain(one, deep)), with(deep)}, {com, q, message(plain(deep, one)), with(deep)}, {com, ds, message(plain(deep, one)), with(one)}, {com, ds, message(plain(deep)), scrub.Out{}},
		{ex, q, message(plain(one)), scrub.Out{}}, {com, q, message(plain(rr(com, api.NS, 5, ns))), scrub.Out{}}, {com, q, message(plain(rr(net, api.NS, 5, ns))), scrub.Out{}}, {ex, q, message(plain(rr(com, api.NS, 5, ns))), scrub.Out{}}, {com, q, message(plain(chaos(one))), scrub.Out{}},
		{com, q, message(plain(rr("\x02ey\x03com\x00", api.NS, 5, ns))), scrub.Out{}}, {root, q, message(plain(two)), scrub.Out{Kind: scrub.Refer, Sets: append(group(cache.Referral, two), group(cache.Glue, rr(far, api.A, 5, addr))...)}},
		{com, q, message(plain(two)), scrub.Out{Kind: scrub.Refer, Sets: group(cache.Referral, two)}}, {com, q, message(func(m *wire.Message) { m.Add(2, one) }), scrub.Out{Kind: scrub.Refer, Sets: group(cache.Referral, one)}},
		{com, q, message(func(m *wire.Message) { m.Add(2, one); m.Rcode = api.NXDomain }), scrub.Out{Kind: scrub.NoName}}, {com, q, message(func(m *wire.Message) { m.Add(2, one); m.Rcode = api.NXDomain; m.AA = false }), scrub.Out{}},
		{com, q, message(func(m *wire.Message) { m.Add(2, one); m.Add(1, rr(www, api.A, 5, addr)) }), scrub.Out{Kind: scrub.Yes, Sets: group(cache.Auth, rr(www, api.A, 5, addr))}},
		{com, q, message(func(m *wire.Message) { m.Add(1, one) }), scrub.Out{Kind: scrub.NoData}},
	} {
		if o := scrub.Sort(c.cut, c.q, c.m); !same(o, c.want) {
			t.Errorf("case %d: %v", i, o)
		}
	}
}

func TestNothing(t *testing.T) { // P19.2
	q := api.Question{Name: www, Type: api.A, Class: 1}
	for i, c := range []struct {
		l    []api.RR
		want int
	}{
		{nil, 0}, {[]api.RR{soa(ex, 9, 5)}, 5}, {[]api.RR{soa(ex, 4, 5)}, 4}, {[]api.RR{soa(ex, 9, 1<<32-1)}, 9}, {[]api.RR{soa(net, 9, 5)}, 0}, {[]api.RR{soa(ns, 9, 5)}, 0}, {[]api.RR{soa(root, 9, 5)}, 0}, {[]api.RR{soa(ex, 9, 5), soa(com, 9, 3)}, 3},
		{[]api.RR{soa(com, 9, 3), soa(com, 9, 4), soa(ex, 9, 5)}, 5}, {[]api.RR{soa(com, 9, 3), soa(com, 2, 3)}, 2}, {[]api.RR{chaos(soa(ex, 9, 5))}, 0}, {[]api.RR{soa(www, 9, 7)}, 7}, {[]api.RR{rr(ex, api.TXT, 9, "\x00")}, 0}, {[]api.RR{rr(com, api.TXT, 9, "\x00"), soa(ex, 9, 5)}, 5},
	} {
		for rcode, kind := range map[int]int{api.NoError: scrub.NoData, api.NXDomain: scrub.NoName} {
			m := message(func(m *wire.Message) { m.Rcode = rcode; m.Add(2, c.l...) })
			if o := scrub.Sort(com, q, m); !same(o, scrub.Out{Kind: kind, TTL: c.want}) {
				t.Errorf("case %d: %v", i, o)
			}
			m.AA = false
			if o := scrub.Sort(com, q, m); !same(o, scrub.Out{}) {
				t.Errorf("case %d, without AA: %v", i, o)
			}
			m.AA, m.TC = true, true
			if o := scrub.Sort(com, q, m); !same(o, scrub.Out{Kind: scrub.Cut}) {
				t.Errorf("case %d, with TC: %v", i, o)
			}
		}
	}
}

func TestNothingBeyondTheCutIsKept(t *testing.T) { // P19.4
	r := rand.New(rand.NewSource(19))
	names := []string{root, com, net, ex, www, ns, far}
	some := func() []api.RR {
		var l []api.RR
		for range r.Intn(6) {
			n := names[r.Intn(len(names))]
			l = append(l, []api.RR{rr(n, api.A, 5, addr), rr(n, api.NS, 5, names[r.Intn(len(names))]), rr(n, api.CNAME, 5, names[r.Intn(len(names))]), soa(n, 5, 6), rr(n, api.AAAA, 4, six), chaos(rr(n, api.A, 5, addr))}[r.Intn(6)])
		}
		return l
	}
	for range 5000 {
		m := wire.Message{Header: wire.Header{QR: true, AA: r.Intn(2) == 0, Rcode: 3 * r.Intn(2)}, An: some(), Ns: some(), Ar: some()}
		cut := names[r.Intn(len(names))]
		q := api.Question{Name: names[r.Intn(len(names))], Type: []int{api.A, api.NS, api.CNAME, api.DS}[r.Intn(4)], Class: 1}
		for _, s := range scrub.Sort(cut, q, m).Sets {
			if !name.Under(s.Name, cut) || s.Class != api.IN || s.Rank < cache.Glue || s.Rank > cache.Auth {
				t.Fatalf("%v: %v", m, s)
			}
			for _, d := range s.Data {
				if !slices.ContainsFunc(m.All(), func(x api.RR) bool { return sets.KeyOf(x) == s.Key && x.Data == d }) {
					t.Fatalf("%v: %v", m, s)
				}
			}
		}
	}
}

func TestListsAreNew(t *testing.T) { // P19.3
	m := message(func(m *wire.Message) {
		m.Add(2, rr(ex, api.NS, 5, ns))
		m.Add(3, rr(ns, api.A, 5, addr), rr(ns, api.AAAA, 5, six))
	})
	q := api.Question{Name: www, Type: api.A, Class: 1}
	o := scrub.Sort(com, q, m)
	for i := range o.Sets {
		o.Sets[i].Data[0] = "!"
		_ = append(o.Sets[i].Data, "!")
	}
	if p := scrub.Sort(com, q, m); len(p.Sets) != 3 || p.Sets[0].Data[0] != ns || p.Sets[1].Data[0] != addr {
		t.Errorf("%v", p)
	}
}
