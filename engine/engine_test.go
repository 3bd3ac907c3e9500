package engine_test

import (
	"math"
	"math/rand"
	"slices"
	"strconv"
	"testing"

	"rhizome/api"
	"rhizome/auth"
	"rhizome/cache"
	"rhizome/engine"
	"rhizome/name"
	"rhizome/rdata"
	"rhizome/sets"
	"rhizome/table"
	"rhizome/wire"
	"rhizome/zone"
)

func n(text string) string {
	s, e := name.Parse(text)
	if e != api.OK {
		panic(text)
	}
	return s
}

const root = "\x00"

func key(n string, kind int) sets.Key {
	return sets.Key{Name: n, Type: kind, Class: api.IN}
}

func h(i int) string { return string([]byte{192, 0, 2, byte(i)}) }

func rr(owner string, kind, ttl int, data string) api.RR {
	return api.RR{Name: n(owner), Type: kind, Class: api.IN, TTL: ttl, Data: data}
}

func ns(owner, server string) api.RR { return rr(owner, api.NS, 50, n(server)) }

func a(owner string, i int) api.RR { return rr(owner, api.A, 50, h(i)) }

func alias(owner, to string) api.RR { return rr(owner, api.CNAME, 20, n(to)) }

func soa(owner string) api.RR {
	d, _ := rdata.PutSoa(rdata.Soa{M: n(owner), R: n(owner), Serial: 1, Min: 30})
	return rr(owner, api.SOA, 60, d)
}

func made(t *testing.T, apex string, l ...api.RR) *zone.Zone {
	z, e := zone.New(n(apex), append(l, soa(apex))...)
	if e != api.OK {
		t.Fatalf("%s: %d", apex, e)
	}
	return z
}

func hints(l ...api.RR) []sets.Set { return sets.Group(l...) }

func begun(t *testing.T, l ...sets.Set) *engine.Engine {
	e, bad := engine.New(5, 100, l...)
	if bad != api.OK {
		t.Fatal(bad)
	}
	return e
}

func ask(text string, kind int) api.Question {
	return api.Question{Name: n(text), Type: kind, Class: api.IN}
}

func started(t *testing.T, e *engine.Engine, now int, q api.Question) int {
	id, bad := e.Start(now, q)
	if bad != api.OK {
		t.Fatal(bad)
	}
	return id
}

// question reads an Out.
func question(t *testing.T, o engine.Out) (int, api.Question) {
	m, bad := wire.Decode(o.Bytes)
	if bad != api.OK || m.QR || m.RD || m.Opcode != 0 || len(m.Q) != 1 || len(m.All()) != 0 {
		t.Fatalf("%v, %d", m, bad)
	}
	return m.ID, m.Q[0]
}

func mark(t *testing.T, o engine.Out) table.Mark {
	id, _ := question(t, o)
	return table.Mark{ID: id, Port: o.Port, To: o.To, TCP: o.TCP}
}

// reply hands an answer in.
func reply(t *testing.T, e *engine.Engine, now int, o engine.Out, f func(m *wire.Message)) bool {
	id, q := question(t, o)
	m := wire.Ask(id, q)
	m.QR, m.AA = true, true
	f(&m)
	b, bad := wire.Encode(m, api.MaxMsg)
	if bad != api.OK {
		t.Fatal(bad)
	}
	return e.Packet(now, mark(t, o), b)
}

// servers are zones by the address that answers of them.
type servers map[string]*zone.Zone

// answer lets the server of an Out answer, if there is one.
func (s servers) answer(t *testing.T, e *engine.Engine, now int, o engine.Out) {
	z, ok := s[o.To]
	if !ok {
		return
	}
	id, q := question(t, o)
	b, bad := wire.Encode(auth.Message(id, q, auth.Answer(z, q)), api.MaxMsg)
	if bad != api.OK || !e.Packet(now, mark(t, o), b) {
		t.Fatalf("%v: %d", o, bad)
	}
}

// run answers whatever goes out, and tells whom it went to.
func (s servers) run(t *testing.T, e *engine.Engine, now int) []string {
	var to []string
	for l := e.Outs(); len(l) > 0; l = e.Outs() {
		for _, o := range l {
			to = append(to, strconv.Itoa(int(o.To[3])))
			s.answer(t, e, now, o)
		}
	}
	return to
}

// same holds results against each other, but for the TTLs.
func same(x engine.Result, job, rcode int, q api.Question, l ...api.RR) bool {
	data := func(s sets.Set) []string { return append([]string{s.Name, strconv.Itoa(s.Type)}, s.Data...) }
	want := make([]sets.Set, len(l))
	for i, r := range l {
		want[i] = sets.Group(r)[0]
	}
	return x.Job == job && x.Rcode == rcode && x.Question == q && slices.EqualFunc(x.An, want, func(s, o sets.Set) bool { return slices.Equal(data(s), data(o)) })
}

// only tells the one result that there is.
func only(t *testing.T, e *engine.Engine) engine.Result {
	l := e.Results()
	if len(l) != 1 || len(e.Results()) != 0 {
		t.Fatalf("%d results", len(l))
	}
	return l[0]
}

func world(t *testing.T) (*zone.Zone, servers) {
	top := made(t, ".", ns(".", "a."), a("a.", 1), ns("com.", "ns.com."), a("ns.com.", 2), ns("net.", "ns.net."), a("ns.net.", 3), ns("org.", "ns.net."), alias("al.", "www.com."))
	return top, servers{
		h(1): top,
		h(2): made(t, "com.", ns("com.", "ns.com."), a("ns.com.", 2), a("www.com.", 100), alias("al.com.", "www.net."), alias("in.com.", "www.com."), ns("sub.com.", "ns.net."), ns("own.com.", "ns.own.com."), a("ns.own.com.", 9)),
		h(3): made(t, "net.", ns("net.", "ns.net."), a("ns.net.", 3), a("www.net.", 101)),
	}
}

func TestNew(t *testing.T) { // P21.1
	for i, c := range []struct {
		seed, most int
		e          api.Errno
	}{{0, 1, api.OK}, {5, 2000, api.OK}, {-1, 5, api.ErrRange}, {5, 0, api.ErrRange}, {5, 2001, api.ErrRange}} {
		if e, bad := engine.New(c.seed, c.most); bad != c.e || (e == nil) != (bad != api.OK) {
			t.Errorf("case %d: %d", i, bad)
		}
	}
	e := begun(t)
	if len(e.Jobs()) != 0 || len(e.Waits()) != 0 || len(e.Outs()) != 0 || len(e.Results()) != 0 || e.Len() != 0 {
		t.Error("it is not empty")
	}
	if e.Put(0, cache.Auth, hints(a("a.", 1))...) != 1 || e.Len() != 1 {
		t.Error("it has no cache")
	}
	if id := started(t, e, 0, ask("x.", api.A)); id != 1 || !same(only(t, e), 1, api.ServFail, ask("x.", api.A)) || len(e.Outs()) != 0 {
		t.Error("the example")
	}
}

func TestStart(t *testing.T) { // P21.2
	e := begun(t, hints(ns(".", "a."), a("a.", 1))...)
	q := ask("x.", api.A)
	for i, c := range []struct {
		now int
		q   api.Question
		e   api.Errno
	}{
		{-1, api.Question{}, api.ErrRange}, {api.MaxTime + 1, q, api.ErrRange}, {math.MinInt, q, api.ErrRange}, {0, api.Question{}, api.ErrName}, {0, api.Question{Name: "\x01X\x00", Type: 1, Class: 1}, api.ErrName}, {0, api.Question{Name: q.Name, Type: 1}, api.ErrForm},
		{0, api.Question{Name: q.Name, Type: 1, Class: 3}, api.ErrForm}, {0, ask("x.", 0), api.ErrForm}, {0, ask("x.", -1), api.ErrForm}, {0, ask("x.", 65536), api.ErrForm}, {0, ask("x.", api.AXFR), api.ErrForm}, {0, ask("x.", api.ANY), api.ErrForm}, {0, ask("x.", api.OPT), api.ErrForm},
	} {
		if id, bad := e.Start(c.now, c.q); id != 0 || bad != c.e || len(e.Jobs()) != 0 {
			t.Errorf("case %d: %d, %d", i, id, bad)
		}
	}
	if started(t, e, 0, q) != 1 || started(t, e, 9, q) != 1 || started(t, e, 0, ask("x.", 65535)) != 2 || started(t, e, api.MaxTime, ask("y.", 1)) != 3 || len(e.Outs()) != 3 {
		t.Errorf("%v", e.Jobs())
	}
	want := engine.Job{Question: q, ID: 1, Top: 1, Sends: 1, Now: q.Name, Out: true}
	if l := e.Jobs(); len(l) != 3 || l[0] != want || l[2].ID != 3 {
		t.Errorf("%v", l)
	}
	for i := 4; i <= api.MaxJobs; i++ {
		if started(t, e, 0, ask("x.", 1000+i)) != i {
			t.Errorf("%d", i)
		}
	}
	if id, bad := e.Start(0, ask("z.", 1)); id != 0 || bad != api.ErrFull || len(e.Jobs()) != api.MaxJobs {
		t.Errorf("%d, %d", id, bad)
	}
	if started(t, e, 0, q) != 1 {
		t.Error("one that is open is told ahead of ErrFull")
	}
	e.Outs()
	e.Tick(api.MaxTime)
	if l := e.Results(); len(l) != api.MaxJobs-1 || len(e.Jobs()) != 1 || e.Jobs()[0].ID != 3 {
		t.Errorf("%d, %v", len(l), e.Jobs())
	}
	if started(t, e, 0, q) != api.MaxJobs+1 {
		t.Error("the next ID")
	}
}

func TestRootZone(t *testing.T) { // P21.1: SetRoot; a job's fourth step
	top, s := world(t)
	e := begun(t, hints(ns(".", "a."), a("a.", 99))...)
	e.SetRoot(top)
	q := ask("none.", api.A)
	started(t, e, 0, q)
	if r := only(t, e); !same(r, 1, api.NXDomain, q) || len(e.Outs()) != 0 {
		t.Errorf("%v", r)
	}
	if e.Absent(29, key(q.Name, 7)) != 1 || e.Absent(30, key(q.Name, 7)) != 0 {
		t.Error("what is not is not kept")
	}
	started(t, e, 0, ask(".", api.TXT))
	if r := only(t, e); !same(r, 2, api.NoError, ask(".", api.TXT)) || e.Absent(0, key(root, api.TXT)) != 2 {
		t.Errorf("%v", r)
	}
	started(t, e, 0, ask(".", api.NS))
	if r := only(t, e); !same(r, 3, api.NoError, ask(".", api.NS), ns(".", "a.")) || r.An[0].TTL != 50 {
		t.Errorf("%v", r)
	}
	started(t, e, 1, ask("www.com.", api.A))
	if to := s.run(t, e, 2); !slices.Equal(to, []string{"2"}) {
		t.Errorf("%v", to)
	}
	if r := only(t, e); !same(r, 4, api.NoError, ask("www.com.", api.A), a("www.com.", 100)) {
		t.Errorf("%v", r)
	}
	if x, ok := e.Peek(2, key(n("com."), api.NS)); !ok || x.Rank != cache.Referral || x.Until != 51 {
		t.Errorf("%v", x)
	}
	started(t, e, 3, ask("al.", api.A))
	if r := only(t, e); !same(r, 5, api.NoError, ask("al.", api.A), alias("al.", "www.com."), a("www.com.", 100)) || r.An[1].TTL != 49 || len(e.Outs()) != 0 {
		t.Errorf("%v", r)
	}
	started(t, e, 3, ask("com.", api.DS))
	if r := only(t, e); !same(r, 6, api.NoError, ask("com.", api.DS)) || len(e.Outs()) != 0 {
		t.Errorf("%v", r)
	}
	for _, z := range []*zone.Zone{nil, s[h(2)]} {
		e.SetRoot(top)
		e.SetRoot(z)
		started(t, e, 3, ask("other.", api.A))
		if l := e.Outs(); len(l) != 1 || l[0].To != h(99) {
			t.Errorf("%v", l)
		}
		e.Tick(10)
	}
}

func TestHints(t *testing.T) { // a job's fifth step
	_, s := world(t)
	chaos := hints(a("c.", 7))[0]
	chaos.Class = 3
	far := hints(ns("com.", "d."), a("d.", 8))
	second := sets.Set{Key: key(root, api.NS), TTL: 5, Data: []string{n("b."), "no name", n("a.")}}
	more := sets.Set{Key: key(n("a."), api.A), TTL: 5, Data: []string{h(5), h(1)}}
	list := append(hints(ns(".", "c."), ns(".", "a."), a("a.", 1), a("b.", 6)), chaos, far[0], far[1], second, more)
	e := begun(t, list...)
	e.Put(0, cache.Auth, hints(ns(".", "x."), a("x.", 77), a("c.", 78))...)
	started(t, e, 0, ask("none.", api.A))
	var to []byte
	for now := 0; len(e.Jobs()) > 0; now += 3 {
		e.Tick(now)
		for _, o := range e.Outs() {
			to = append(to, o.To[3])
		}
	}
	if !slices.Equal(to, []byte{1, 5, 6}) || only(t, e).Rcode != api.ServFail {
		t.Errorf("%v", to)
	}
	e = begun(t, hints(ns(".", "a."), a("a.", 1))...)
	started(t, e, 0, ask("al.com.", api.A))
	if to := s.run(t, e, 0); !slices.Equal(to, []string{"1", "2", "1", "3"}) {
		t.Errorf("%v", to)
	}
	if r := only(t, e); !same(r, 1, api.NoError, ask("al.com.", api.A), alias("al.com.", "www.net."), a("www.net.", 101)) {
		t.Errorf("%v", r)
	}
}

func TestCacheAhead(t *testing.T) { // a job's first three steps
	e := begun(t)
	e.Put(0, cache.Plain, hints(a("x.", 1))...)
	e.Put(0, cache.Referral, hints(a("y.", 1), alias("z.", "x."))...)
	e.Put(0, cache.Plain, hints(alias("c.", "d."), alias("d.", "x."), alias("l.", "l."), alias("w.", "no."))...)
	e.No(0, cache.Auth, 20, key(n("no."), 0))
	e.No(0, cache.Auth, 20, key(n("x."), api.TXT))
	for i, c := range []struct {
		q     api.Question
		rcode int
		l     []api.RR
	}{
		{ask("x.", api.A), api.NoError, []api.RR{a("x.", 1)}}, {ask("y.", api.A), api.ServFail, nil}, {ask("z.", api.A), api.ServFail, nil}, {ask("c.", api.A), api.NoError, []api.RR{alias("c.", "d."), alias("d.", "x."), a("x.", 1)}},
		{ask("c.", api.CNAME), api.NoError, []api.RR{alias("c.", "d.")}}, {ask("x.", api.CNAME), api.ServFail, nil}, {ask("no.", api.A), api.NXDomain, nil}, {ask("no.", api.NS), api.NXDomain, nil}, {ask("w.", api.A), api.NXDomain, []api.RR{alias("w.", "no.")}},
		{ask("x.", api.TXT), api.NoError, nil}, {ask("d.", api.TXT), api.NoError, []api.RR{alias("d.", "x.")}}, {ask("l.", api.A), api.ServFail, nil},
	} {
		started(t, e, 5, c.q)
		if r := only(t, e); !same(r, i+1, c.rcode, c.q, c.l...) || len(e.Outs()) != 0 {
			t.Errorf("case %d: %v", i, r)
		}
	}
	started(t, e, 5, ask("c.", api.A))
	if r := only(t, e); r.An[0].TTL != 15 || r.An[2].TTL != 45 {
		t.Errorf("%v", r)
	}
	uses := func(owner string, kind int) int {
		x, _ := e.Peek(5, key(n(owner), kind))
		return x.Used
	}
	before := uses("y.", api.A)
	started(t, e, 5, ask("y.", api.A))
	if uses("y.", api.A) <= before {
		t.Error("a use, whatever the rank")
	}
	before = uses("z.", api.CNAME)
	started(t, e, 5, ask("z.", api.CNAME))
	started(t, e, 5, ask("z.", api.A))
	first, _ := e.Get(5, key(n("x."), api.A))
	started(t, e, 5, ask("z.", api.CNAME))
	second, _ := e.Get(5, key(n("x."), api.A))
	if uses("z.", api.CNAME) < before+3 || second.Used != first.Used+2 {
		t.Errorf("a use, whatever the rank, and one alone: %d, %d", first.Used, second.Used)
	}
}

func TestChains(t *testing.T) { // a job's third step; an answer that is an alias
	name := func(i int) string { return "c" + strconv.Itoa(i) + "." }
	for _, links := range []int{16, 17} {
		var l []api.RR
		for i := range links {
			l = append(l, alias(name(i), name(i+1)))
		}
		l = append(l, a(name(links), 1))
		cached := begun(t)
		cached.Put(0, cache.Auth, hints(l...)...)
		zoned := begun(t)
		zoned.SetRoot(made(t, ".", append(l, ns(".", "a."))...))
		heard := begun(t, hints(ns(".", "a."), a("a.", 1))...)
		for i, e := range []*engine.Engine{cached, zoned, heard} {
			q := ask("c0.", api.A)
			started(t, e, 0, q)
			servers{h(1): made(t, ".", append(l, ns(".", "a."))...)}.run(t, e, 0)
			r := only(t, e)
			if links == 16 && !same(r, 1, api.NoError, q, l...) || links == 17 && !same(r, 1, api.ServFail, q) {
				t.Errorf("%d links, case %d: %v", links, i, r)
			}
		}
	}
}

func TestTurns(t *testing.T) { // 64 turns at most
	// The zone refers to a cut, but the cache has it with a greater rank that there is no NS set.
	e := begun(t)
	e.SetRoot(made(t, ".", ns(".", "a."), ns("x.", "ns.x."), a("ns.x.", 7)))
	e.No(0, cache.Auth, 99, key(n("x."), api.NS))
	started(t, e, 0, ask("y.x.", api.A))
	if r := only(t, e); r.Rcode != api.ServFail || len(e.Jobs()) != 0 {
		t.Errorf("%v", r)
	}
	// Each turn lays the address anew, which is a use.
	if x, ok := e.Peek(0, key(n("ns.x."), api.A)); !ok || x.Used != 1+64 {
		t.Errorf("%v", x)
	}
}

func TestAnswers(t *testing.T) { // an answer is taken
	top := hints(ns(".", "a."), ns(".", "b."), a("a.", 1), a("b.", 2))
	q := ask("x.", api.A)
	for i, c := range []struct {
		f     func(m *wire.Message)
		rcode int // -1: it goes on
		l     []api.RR
		kept  int // entries
	}{
		{func(m *wire.Message) { m.Add(1, a("x.", 9)) }, api.NoError, []api.RR{a("x.", 9)}, 1}, {func(m *wire.Message) { m.Rcode = api.NXDomain }, api.NXDomain, nil, 0}, {func(m *wire.Message) { m.Rcode = api.NXDomain; m.Add(2, soa(".")) }, api.NXDomain, nil, 1},
		{func(m *wire.Message) { m.Add(2, soa(".")) }, api.NoError, nil, 1}, {func(m *wire.Message) {}, api.NoError, nil, 0}, {func(m *wire.Message) { m.AA = false }, -1, nil, 0}, {func(m *wire.Message) { m.Rcode = api.Refused }, -1, nil, 0},
		{func(m *wire.Message) { m.Add(1, alias("x.", "y.")); m.Add(1, a("y.", 9)) }, -1, nil, 1}, {func(m *wire.Message) { m.Add(2, ns("x.", "ns.x.")); m.Add(3, a("ns.x.", 7)) }, -1, nil, 2},
	} {
		e := begun(t, top...)
		started(t, e, 0, q)
		if !reply(t, e, 1, e.Outs()[0], c.f) || e.Len() != c.kept {
			t.Errorf("case %d: %v", i, e.Entries())
		}
		l := e.Results()
		if c.rcode < 0 && (len(l) != 0 || len(e.Outs()) != 1 || !e.Jobs()[0].Out || e.Jobs()[0].Sends != 2) || c.rcode >= 0 && (len(l) != 1 || !same(l[0], 1, c.rcode, q, c.l...) || len(e.Waits()) != 0) {
			t.Errorf("case %d: %v", i, l)
		}
	}
	e := begun(t, top...)
	started(t, e, 0, q)
	reply(t, e, 1, e.Outs()[0], func(m *wire.Message) { m.Rcode = 2 })
	if o := e.Outs(); o[0].To != h(2) || reply(t, e, 1, o[0], func(m *wire.Message) { m.AA = false }) && only(t, e).Rcode != api.ServFail {
		t.Errorf("%v", o)
	}
	// An alias forgets what was tried.
	e = begun(t, top...)
	started(t, e, 0, q)
	reply(t, e, 1, e.Outs()[0], func(m *wire.Message) { m.Add(1, alias("x.", "y.")) })
	if o := e.Outs()[0]; o.To != h(1) || e.Jobs()[0].Now != n("y.") || e.Jobs()[0].Question != q {
		t.Errorf("%v", o)
	}
}

func TestPacketThatDoesNotFit(t *testing.T) { // P21.3
	e := begun(t, hints(ns(".", "a."), a("a.", 1))...)
	started(t, e, 0, ask("x.", api.A))
	o := e.Outs()[0]
	id, q := question(t, o)
	m := wire.Ask(id, q)
	m.QR, m.AA = true, true
	m.Add(1, a("x.", 9))
	good, _ := wire.Encode(m, 512)
	m.ID = (id + 1) % 65536
	wrong, _ := wire.Encode(m, 512)
	k := mark(t, o)
	port, to, tcp := k, k, k
	port.Port++
	to.To = h(2)
	tcp.TCP = true
	for i, c := range []struct {
		now int
		k   table.Mark
		b   []byte
	}{{-1, k, good}, {api.MaxTime + 1, k, good}, {0, k, nil}, {0, k, good[:20]}, {0, k, append(slices.Clone(good), 0)}, {0, port, good}, {0, to, good}, {0, tcp, good}, {0, k, wrong}, {0, table.Mark{}, good}} {
		if e.Packet(c.now, c.k, c.b) || len(e.Waits()) != 1 || !e.Jobs()[0].Out || e.Len() != 0 {
			t.Errorf("case %d is taken", i)
		}
	}
	if !e.Packet(0, k, good) || only(t, e).Rcode != api.NoError || e.Packet(0, k, good) {
		t.Error("what fits is not taken, or twice")
	}
}

func TestTick(t *testing.T) { // P21.3
	e := begun(t, hints(ns(".", "a."), a("a.", 1), a("a.", 2))...)
	started(t, e, 0, ask("x.", api.A))
	started(t, e, 1, ask("y.", api.A))
	e.Outs()
	for _, now := range []int{-1, 2, api.MaxTime + 1} {
		if e.Tick(now); len(e.Outs()) != 0 || len(e.Waits()) != 2 {
			t.Errorf("%d", now)
		}
	}
	e.Tick(3)
	if l := e.Outs(); len(l) != 1 || l[0].To != h(2) || e.Jobs()[0].Sends != 2 {
		t.Errorf("%v", l)
	}
	e.Tick(4)
	if l := e.Outs(); len(l) != 1 || l[0].To != h(2) {
		t.Errorf("%v", l)
	}
	e.Tick(9)
	l := e.Results()
	if len(l) != 2 || !same(l[0], 1, api.ServFail, ask("x.", api.A)) || !same(l[1], 2, api.ServFail, ask("y.", api.A)) || len(e.Waits()) != 0 {
		t.Errorf("%v", l)
	}
}

func TestSends(t *testing.T) { // P21.6
	var l []api.RR
	for i := range 30 {
		l = append(l, a("a.", i+1))
	}
	e := begun(t, hints(append(l, ns(".", "a."))...)...)
	started(t, e, 0, ask("x.", api.A))
	count := 0
	for now := 0; len(e.Jobs()) > 0; now += 3 {
		if e.Tick(now); len(e.Waits()) > 1 {
			t.Fatal("two of one job")
		}
		count += len(e.Outs())
	}
	if count != api.MaxSends || only(t, e).Rcode != api.ServFail {
		t.Errorf("%d", count)
	}
}

func TestTruncated(t *testing.T) { // an answer that is cut off
	cut := func(m *wire.Message) { m.TC = true }
	e := begun(t, hints(ns(".", "a."), a("a.", 1), a("a.", 2))...)
	started(t, e, 0, ask("x.", api.A))
	reply(t, e, 0, e.Outs()[0], cut)
	l := e.Outs()
	if len(l) != 1 || !l[0].TCP || l[0].To != h(1) || e.Jobs()[0].Sends != 2 || !e.Jobs()[0].Out || !e.Waits()[0].TCP {
		t.Fatalf("%v", l)
	}
	reply(t, e, 0, l[0], cut)
	l = e.Outs()
	if len(l) != 1 || l[0].TCP || l[0].To != h(2) || e.Jobs()[0].Sends != 3 {
		t.Fatalf("%v", l)
	}
	reply(t, e, 0, l[0], cut)
	reply(t, e, 0, e.Outs()[0], func(m *wire.Message) { m.Add(1, a("x.", 9)) })
	if r := only(t, e); !same(r, 1, api.NoError, ask("x.", api.A), a("x.", 9)) {
		t.Errorf("%v", r)
	}
	var many []api.RR
	for i := range 30 {
		many = append(many, a("a.", i+1))
	}
	e = begun(t, hints(append(many, ns(".", "a."))...)...)
	started(t, e, 0, ask("x.", api.A))
	for range api.MaxSends - 1 {
		e.Tick(e.Waits()[0].Until)
	}
	all := e.Outs()
	reply(t, e, 0, all[len(all)-1], cut)
	if r := only(t, e); len(all) != api.MaxSends || r.Rcode != api.ServFail || len(e.Outs()) != 0 {
		t.Errorf("%d, %v", len(all), r)
	}
}

func TestServersAreSought(t *testing.T) { // a job's sixth step
	top, s := world(t)
	s[h(3)] = made(t, "net.", ns("net.", "ns.net."), a("ns.net.", 3), a("other.net.", 4))
	s[h(4)] = made(t, "sub.com.", ns("sub.com.", "other.net."), a("www.sub.com.", 55))
	s[h(2)] = made(t, "com.", ns("com.", "ns.com."), a("ns.com.", 2), ns("sub.com.", "other.net."))
	e := begun(t)
	e.SetRoot(top)
	started(t, e, 0, ask("www.sub.com.", api.A))
	s.answer(t, e, 0, e.Outs()[0])
	want := []engine.Job{{Question: ask("www.sub.com.", api.A), ID: 1, Top: 1, Sends: 2, Sub: 2, Now: n("www.sub.com.")}, {Question: ask("other.net.", api.A), ID: 2, Parent: 1, Top: 1, Depth: 1, Now: n("other.net."), Out: true}}
	if l := e.Jobs(); !slices.Equal(l, want) {
		t.Errorf("%v", l)
	}
	s.answer(t, e, 0, e.Outs()[0])
	if l := e.Jobs(); !slices.Equal(l, []engine.Job{{Question: ask("www.sub.com.", api.A), ID: 1, Top: 1, Sends: 3, Now: n("www.sub.com."), Out: true}}) {
		t.Errorf("it waits for nothing but its own: %v", l)
	}
	if to := s.run(t, e, 0); !slices.Equal(to, []string{"4"}) {
		t.Errorf("%v", to)
	}
	if r := only(t, e); !same(r, 1, api.NoError, ask("www.sub.com.", api.A), a("www.sub.com.", 55)) || len(e.Jobs()) != 0 {
		t.Errorf("%v", r)
	}
	// The address is known not to be there: it is not sought, but the next one.
	e = begun(t)
	e.SetRoot(top)
	e.Put(0, cache.Auth, hints(ns("com.", "a.net."), ns("com.", "b.net."), ns("com.", "www.com."), ns("com.", "c.net."))...)
	e.No(0, cache.Auth, 99, key(n("a.net."), 0))
	started(t, e, 0, ask("www.com.", api.A))
	if l := e.Jobs(); len(l) != 2 || l[1].Question != ask("b.net.", api.A) {
		t.Errorf("%v", l)
	}
	reply(t, e, 0, e.Outs()[0], func(m *wire.Message) { m.Rcode = api.NXDomain })
	if l := e.Jobs(); len(l) != 2 || l[1].Question != ask("c.net.", api.A) || l[0].Sub != 3 {
		t.Errorf("not its own name, and none twice: %v", l)
	}
	reply(t, e, 0, e.Outs()[0], func(m *wire.Message) { m.Rcode = api.NXDomain })
	if r := only(t, e); r.Rcode != api.ServFail {
		t.Errorf("%v", r)
	}
	// Of another type its own name may be sought, but not again for that.
	started(t, e, 0, ask("www.com.", api.TXT))
	if l := e.Jobs(); len(l) != 3 || l[1].Question != ask("www.com.", api.A) || l[2].Question != ask("b.net.", api.A) || l[2].Depth != 2 {
		t.Errorf("%v", l)
	}
}

func TestDepth(t *testing.T) { // P21.6
	var l []sets.Set
	for i := range 9 {
		l = append(l, hints(ns("z"+strconv.Itoa(i)+".", "ns.z"+strconv.Itoa(i+1)+"."))...)
	}
	e := begun(t)
	e.Put(0, cache.Auth, l...)
	started(t, e, 0, ask("www.z0.", api.A))
	if r := only(t, e); r.Rcode != api.ServFail {
		t.Errorf("%v", r)
	}
	if id := started(t, e, 0, ask("x.", api.A)); id != 2+api.MaxDepth {
		t.Errorf("%d jobs", id-1)
	}
	// Servers whose addresses lead round: each job ends, however many there are.
	e = begun(t)
	var round []api.RR
	for i := range 20 {
		round = append(round, ns("x.", "n"+strconv.Itoa(i)+".x."))
	}
	e.Put(0, cache.Auth, hints(round...)...)
	started(t, e, 0, ask("www.x.", api.A))
	if r := only(t, e); r.Rcode != api.ServFail {
		t.Errorf("%v", r)
	}
	if id := started(t, e, 0, ask("x.", api.A)); id != 2+20+20*19+20*19*18 {
		t.Errorf("%d jobs", id-1)
	}
}

func TestMaxJobs(t *testing.T) { // P21.6
	e := begun(t, hints(ns(".", "a."), a("a.", 1))...)
	e.Put(0, cache.Auth, hints(ns("x.", "ns.y."))...)
	for i := range api.MaxJobs - 1 {
		started(t, e, 0, ask("q.", 1000+i))
	}
	started(t, e, 0, ask("www.x.", api.A))
	if r := only(t, e); r.Rcode != api.ServFail || len(e.Jobs()) != api.MaxJobs-1 {
		t.Errorf("%v", r)
	}
}

// holds tells whether what P21.6 says of open jobs is so.
func holds(e *engine.Engine) bool {
	out := map[int]int{}
	for _, w := range e.Waits() {
		out[w.Job]++
	}
	l := e.Jobs()
	for i, j := range l {
		if i > 0 && l[i-1].ID >= j.ID || j.Out != (out[j.ID] == 1) || out[j.ID] > 1 || j.Out == (j.Sub != 0) || j.Sends > api.MaxSends || j.Depth > api.MaxDepth {
			return false
		}
		if j.Sub != 0 && !slices.ContainsFunc(l, func(o engine.Job) bool {
			return o.ID == j.Sub && o.Parent == j.ID && o.Top == j.Top && o.Depth == j.Depth+1
		}) {
			return false
		}
	}
	return len(l) <= api.MaxJobs && e.Len() <= 100
}

func TestBounds(t *testing.T) { // P21.6
	r := rand.New(rand.NewSource(21))
	names := []string{".", "a.", "b.", "x.a.", "x.b.", "y.a.", "y.b.", "z.y.a.", "z.y.b."}
	some := func() string { return names[r.Intn(len(names))] }
	for range 300 {
		e, _ := engine.New(r.Intn(99), 1+r.Intn(100), hints(ns(".", "a."), ns(".", "b."), a("a.", 1), a("b.", 2))...)
		var all []engine.Out
		now, open := 0, map[int]int{}
		for range 80 {
			switch k := r.Intn(10); {
			case k < 2:
				if id, bad := e.Start(now, ask(some(), []int{1, 2, 5, 43}[r.Intn(4)])); bad == api.OK {
					open[id]++
				}
			case k < 3:
				now += r.Intn(5)
				e.Tick(now)
			case len(all) > 0:
				reply(t, e, now, all[r.Intn(len(all))], func(m *wire.Message) {
					m.AA, m.TC, m.Rcode = r.Intn(3) > 0, r.Intn(9) == 0, []int{0, 0, 0, 3, 5}[r.Intn(5)]
					for range r.Intn(3) {
						m.Add(1+r.Intn(3), []api.RR{ns(some(), some()), a(some(), r.Intn(9)), alias(some(), some()), rr("a.", api.SOA, 9, soa("a.").Data)}[r.Intn(4)])
					}
				})
			}
			all = append(all, e.Outs()...)
			for _, x := range e.Results() {
				if open[x.Job] == 0 {
					t.Fatalf("%v was not asked, or has ended", x)
				}
				delete(open, x.Job)
			}
			if !holds(e) {
				t.Fatalf("%v, %v", e.Jobs(), e.Waits())
			}
		}
		for range api.MaxSends * 2 {
			now += 3
			e.Tick(now)
			e.Outs()
		}
		if len(e.Jobs()) != 0 || len(e.Results()) != len(open) {
			t.Fatalf("%v", e.Jobs())
		}
	}
}

func TestListsAreNew(t *testing.T) { // P21.4, P21.5
	l := hints(ns(".", "a."), a("a.", 1))
	e := begun(t, l...)
	for i := range l {
		l[i].Data[0] = "!"
	}
	started(t, e, 0, ask("x.", api.A))
	o := e.Outs()
	if len(o) != 1 || o[0].To != h(1) || len(e.Outs()) != 0 {
		t.Fatalf("%v", o)
	}
	reply(t, e, 0, o[0], func(m *wire.Message) { m.Add(1, a("x.", 9)) })
	r := only(t, e)
	r.An[0].Data[0] = "!"
	started(t, e, 0, ask("x.", api.A))
	if r := only(t, e); r.An[0].Data[0] != h(9) {
		t.Errorf("%v", r)
	}
	started(t, e, 0, ask("y.", api.A))
	e.Jobs()[0].ID, e.Waits()[0].Job = 99, 99
	if e.Jobs()[0].ID != 3 || e.Waits()[0].Job != 3 {
		t.Error("what is handed out is its own")
	}
}
