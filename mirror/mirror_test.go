package mirror_test

import (
	"math"
	"slices"
	"strings"
	"testing"

	"rhizome/api"
	"rhizome/axfr"
	"rhizome/disk"
	"rhizome/frame"
	"rhizome/md"
	"rhizome/mirror"
	"rhizome/rdata"
	"rhizome/slots"
	"rhizome/wire"
	"rhizome/zone"
)

const ex = "\x02ex\x00"

type times struct{ refresh, retry, expire int }

var usual = times{100, 20, 400}

// signed tells the records of a zone with its digest.
func signed(t *testing.T, serial int, c times, more ...api.RR) []api.RR {
	d, _ := rdata.PutSoa(rdata.Soa{M: ex, R: ex, Serial: serial, Refresh: c.refresh, Retry: c.retry, Expire: c.expire})
	l := []api.RR{{Name: ex, Type: api.SOA, Class: 1, TTL: 5, Data: d}, {Name: ex, Type: api.NS, Class: 1, TTL: 5, Data: ex}}
	l, e := md.Sign(ex, append(l, more...)...)
	if e != api.OK {
		t.Fatal(e)
	}
	return l
}

func empty(t *testing.T) *slots.Store {
	d, _ := disk.New(40)
	slots.Format(d)
	s, e := slots.Open(d)
	if e != api.OK {
		t.Fatal(e)
	}
	return s
}

// holding is a store with a zone.
func holding(t *testing.T, serial, time int, c times) *slots.Store {
	s := empty(t)
	z, e := zone.New(ex, signed(t, serial, c)...)
	if e != api.OK || s.Install(z, time) != api.OK {
		t.Fatal(e)
	}
	return s
}

func made(t *testing.T, s *slots.Store, masters ...string) *mirror.Mirror {
	m, e := mirror.New(s, ex, masters...)
	if e != api.OK {
		t.Fatal(e)
	}
	return m
}

// serialOf tells what is held: -1, if nothing is.
func serialOf(t *testing.T, m *mirror.Mirror) int {
	z, ok := m.Held()
	if ok != (z != nil) {
		t.Fatal("Held")
	}
	if !ok {
		return -1
	}
	return z.Soa().Serial
}

func reply(t *testing.T, id, serial int, f func(a *wire.Message)) []byte {
	q := api.Question{Name: ex, Type: api.SOA, Class: 1}
	a := wire.Ask(id, q)
	a.QR, a.AA = true, true
	a.An = signed(t, serial, usual)[:1]
	if f != nil {
		f(&a)
	}
	b, e := wire.Encode(a, api.MaxMsg)
	if e != api.OK {
		t.Fatal(e)
	}
	return b
}

func stream(t *testing.T, id int, l []api.RR) []byte {
	b, e := axfr.Make(id, ex, 2, l...)
	if e != api.OK {
		t.Fatal(e)
	}
	return b
}

func sameSends(l, m []mirror.Send) bool {
	return slices.EqualFunc(l, m, func(a, b mirror.Send) bool {
		return a.To == b.To && a.Stream == b.Stream && string(a.Bytes) == string(b.Bytes)
	})
}

func asked(t *testing.T, id, kind int) []byte {
	b, e := wire.Encode(wire.Ask(id, api.Question{Name: ex, Type: kind, Class: 1}), 512)
	if e != api.OK {
		t.Fatal(e)
	}
	return b
}

func TestPhases(t *testing.T) {
	if got := [...]int{mirror.Idle, mirror.Asking, mirror.Pulling}; got != [...]int{0, 1, 2} {
		t.Errorf("%v", got)
	}
}

func TestNew(t *testing.T) { // P17.1
	for _, apex := range []string{"", "ex", "\x02EX\x00"} {
		if m, e := mirror.New(empty(t), apex, "m"); m != nil || e != api.ErrName {
			t.Errorf("%q: %d", apex, e)
		}
	}
	m := made(t, empty(t), "m")
	if m.Plan != (mirror.Plan{}) || serialOf(t, m) != -1 {
		t.Errorf("%v", m.Plan)
	}
	m = made(t, holding(t, 5, 77, usual), "m")
	if m.Plan != (mirror.Plan{Time: 77}) || serialOf(t, m) != 5 {
		t.Errorf("%v", m.Plan)
	}
	m, e := mirror.New(holding(t, 5, 77, usual), "\x00", "m")
	if e != api.OK || m.Plan != (mirror.Plan{}) || serialOf(t, m) != -1 {
		t.Errorf("another apex: %v", m.Plan)
	}
	s := empty(t)
	z, _ := zone.New(ex, append(signed(t, 5, usual), api.RR{Name: ex, Type: 300, Class: 1})...)
	s.Install(z, 9)
	if m := made(t, s); m.Plan != (mirror.Plan{}) || serialOf(t, m) != -1 {
		t.Errorf("a wrong digest: %v", m.Plan)
	}
}

func TestCopyAndDue(t *testing.T) { // P17.1, P17.6
	m := made(t, holding(t, 5, 70, times{100, 20, 30}), "m")
	for now, want := range map[int]bool{69: false, 70: true, 99: true, 100: false, -1: false, api.MaxTime: false, math.MaxInt: false} {
		if z, ok := m.Copy(now); ok != want || (z != nil) != want {
			t.Errorf("Copy(%d)", now)
		}
	}
	if z, ok := made(t, empty(t), "m").Copy(0); z != nil || ok {
		t.Error("Copy of none")
	}
	for i, c := range []struct {
		p    mirror.Plan
		now  int
		want bool
	}{
		{mirror.Plan{Next: 5}, 5, true}, {mirror.Plan{Next: 5}, 4, false}, {mirror.Plan{Next: 5, Until: 99}, 6, true}, {mirror.Plan{Phase: mirror.Asking, Until: 5}, 5, true}, {mirror.Plan{Phase: mirror.Asking, Until: 5}, 4, false}, {mirror.Plan{Phase: mirror.Pulling, Until: 5, Next: 99}, 6, true},
		{mirror.Plan{}, -1, false}, {mirror.Plan{}, api.MaxTime, true}, {mirror.Plan{}, api.MaxTime + 1, false}, {mirror.Plan{Phase: mirror.Pulling, Until: -9}, -1, false}, {mirror.Plan{Phase: mirror.Pulling}, math.MaxInt, false},
	} {
		m := made(t, empty(t))
		m.Plan = c.p
		if c.p.Due(c.now) != c.want || m.Due(c.now) != c.want {
			t.Errorf("case %d", i)
		}
	}
}

func TestTick(t *testing.T) { // P17.2
	m := made(t, empty(t), "m", "n")
	if l := m.Tick(-1, 5); len(l) != 0 || len(m.Tick(api.MaxTime+1, 5)) != 0 || m.Plan != (mirror.Plan{}) {
		t.Errorf("%v", l)
	}
	if l := m.Tick(10, 65536+5); !sameSends(l, []mirror.Send{{To: "m", Bytes: asked(t, 5, api.SOA)}}) || m.Plan != (mirror.Plan{Phase: mirror.Asking, ID: 5, Until: 13}) {
		t.Errorf("%v, %v", l, m.Plan)
	}
	if l := m.Tick(12, 9); len(l) != 0 || m.Phase != mirror.Asking {
		t.Errorf("%v, %v", l, m.Plan)
	}
	if l := m.Tick(13, 9); len(l) != 0 || m.Plan != (mirror.Plan{Turn: 1, Next: 18}) {
		t.Errorf("%v, %v", l, m.Plan)
	}
	if l := m.Tick(17, 9); len(l) != 0 || m.Phase != mirror.Idle {
		t.Errorf("%v", m.Plan)
	}
	if l := m.Tick(18, -9); !sameSends(l, []mirror.Send{{To: "n", Bytes: asked(t, 0, api.SOA)}}) || m.Plan != (mirror.Plan{Phase: mirror.Asking, Turn: 1, Until: 21, Next: 18}) {
		t.Errorf("%v, %v", l, m.Plan)
	}
	m.Tick(99, 0)
	if m.Plan != (mirror.Plan{Next: 104}) {
		t.Errorf("the last master: %v", m.Plan)
	}
	m = made(t, empty(t), "m")
	if l := m.Tick(0, 5+65535); !sameSends(l, []mirror.Send{{To: "m", Bytes: asked(t, 4, api.SOA)}}) {
		t.Errorf("the example, with a greater draw: %v", l)
	}
	m = made(t, empty(t), "m")
	if l := m.Tick(0, 65535); !sameSends(l, []mirror.Send{{To: "m", Bytes: asked(t, 65535, api.SOA)}}) {
		t.Errorf("%v", l)
	}
	m = made(t, empty(t))
	if l := m.Tick(10, 5); len(l) != 0 || m.Plan != (mirror.Plan{}) {
		t.Errorf("no masters: %v", l)
	}
	for retry, wait := range map[int]int{0: 1, 20: 20, 3600: 3600, 3601: 3600, 1<<32 - 1: 3600} {
		m := made(t, holding(t, 5, 7, times{100, retry, 400}), "m")
		m.Tick(10, 5)
		m.Tick(20, 5)
		if m.Plan != (mirror.Plan{Next: 20 + wait, Time: 7}) {
			t.Errorf("retry %d: %v", retry, m.Plan)
		}
	}
}

func TestPacketThatDoesNotFit(t *testing.T) { // P17.3
	m := made(t, holding(t, 5, 7, usual), "m", "n")
	good := reply(t, 9, 6, nil)
	if l := m.Packet(10, 1, "m", good); len(l) != 0 || m.Phase != mirror.Idle {
		t.Error("it is Idle")
	}
	m.Tick(10, 9)
	before := m.Plan
	for i, c := range []struct {
		now  int
		from string
		b    []byte
	}{
		{11, "n", good}, {11, "", good}, {-1, "m", good}, {api.MaxTime + 1, "m", good}, {11, "m", nil}, {11, "m", good[:20]}, {11, "m", reply(t, 8, 6, nil)}, {11, "m", reply(t, 9, 6, func(a *wire.Message) { a.QR = false })},
		{11, "m", reply(t, 9, 6, func(a *wire.Message) { a.Opcode = 1 })}, {11, "m", reply(t, 9, 6, func(a *wire.Message) { a.Q = nil })}, {11, "m", reply(t, 9, 6, func(a *wire.Message) { a.Q = append(a.Q, a.Q[0]) })},
		{11, "m", reply(t, 9, 6, func(a *wire.Message) { a.Q[0].Type = api.AXFR })}, {11, "m", reply(t, 9, 6, func(a *wire.Message) { a.Q[0].Class = 3 })}, {11, "m", reply(t, 9, 6, func(a *wire.Message) { a.Q[0].Name = "\x00" })},
	} {
		if l := m.Packet(c.now, 1, c.from, c.b); len(l) != 0 || m.Plan != before {
			t.Errorf("case %d: %v", i, m.Plan)
		}
	}
}

func TestPacketFails(t *testing.T) { // P17.3
	other := api.RR{Name: ex, Type: 300, Class: 1}
	for i, f := range []func(a *wire.Message){
		func(a *wire.Message) { a.Rcode = 5 }, func(a *wire.Message) { a.AA = false }, func(a *wire.Message) { a.An = nil }, func(a *wire.Message) { a.An = []api.RR{other} }, func(a *wire.Message) { a.Ns, a.An = a.An, nil },
		func(a *wire.Message) { a.An[0].Name = "\x01x\x02ex\x00" },
	} {
		m := made(t, holding(t, 5, 7, usual), "m", "n")
		m.Tick(10, 9)
		if l := m.Packet(12, 1, "m", reply(t, 9, 6, f)); len(l) != 0 || m.Plan != (mirror.Plan{Turn: 1, Next: 32, Time: 7}) {
			t.Errorf("case %d: %v", i, m.Plan)
		}
	}
}

func TestPacketOfTheSame(t *testing.T) { // P17.3
	for _, serial := range []int{5, 4, 5 + 1<<31, 5 - 1<<31 + 1<<32} {
		for refresh, wait := range map[int]int{0: 1, 100: 100, 86400: 86400, 86401: 86400} {
			s := holding(t, 5, 7, times{refresh, 20, 400})
			m := made(t, s, "m", "n")
			m.Tick(10, 9)
			if l := m.Packet(12, 1, "m", reply(t, 9, serial, nil)); len(l) != 0 || m.Plan != (mirror.Plan{Next: 12 + wait, Time: 12}) || s.Time != 12 || serialOf(t, m) != 5 {
				t.Errorf("%d, %d: %v, %v", serial, refresh, m.Plan, s.Super)
			}
			if o, _ := slots.Open(s.Disk()); o.Time != 12 {
				t.Errorf("%v", o.Super)
			}
		}
	}
	s := holding(t, 5, 7, usual)
	m := made(t, s, "m", "n")
	m.Tick(10, 9)
	s.Disk().CrashAt(1)
	if l := m.Packet(12, 1, "m", reply(t, 9, 5, nil)); len(l) != 0 || m.Plan != (mirror.Plan{Turn: 1, Next: 32, Time: 7}) || serialOf(t, m) != 5 {
		t.Errorf("%v", m.Plan)
	}
}

func TestPacketOfANewer(t *testing.T) { // P17.3
	framed, _ := frame.Put(asked(t, 44, api.AXFR))
	first := func(a *wire.Message) {
		a.An = append(a.An, signed(t, 4, usual)[0])
		a.An = append([]api.RR{{Name: ex, Type: api.NS, Class: 1, Data: ex}, {Name: "\x00", Type: api.SOA, Class: 1, Data: signed(t, 3, usual)[0].Data}}, a.An...)
		a.An[0].Class = 3
		a.TC = true
	}
	for i, c := range []struct {
		s      *slots.Store
		serial int
		f      func(a *wire.Message)
		time   int
	}{{holding(t, 5, 7, usual), 6, nil, 7}, {holding(t, 5, 7, usual), 6, first, 7}, {holding(t, 5, 7, usual), 4 + 1<<31, nil, 7}, {empty(t), 1, nil, 0}, {empty(t), 0, nil, 0}} {
		m := made(t, c.s, "m", "n")
		m.Tick(10, 9)
		l := m.Packet(12, 3*65536+44, "m", reply(t, 9, c.serial, c.f))
		if !sameSends(l, []mirror.Send{{To: "m", Stream: true, Bytes: framed}}) || m.Plan != (mirror.Plan{Phase: mirror.Pulling, ID: 44, Until: 42, Next: m.Next, Time: c.time}) {
			t.Errorf("case %d: %v, %v", i, l, m.Plan)
		}
		if l := m.Packet(13, 1, "m", reply(t, 44, 6, nil)); len(l) != 0 || m.Phase != mirror.Pulling {
			t.Errorf("case %d: %v", i, m.Plan)
		}
		m.Tick(41, 5)
		if m.Phase != mirror.Pulling {
			t.Errorf("case %d: %v", i, m.Plan)
		}
		m.Tick(42, 5)
		if m.Phase != mirror.Idle || m.Turn != 1 {
			t.Errorf("case %d: %v", i, m.Plan)
		}
	}
	m := made(t, empty(t), "m")
	m.Tick(10, 9)
	if l := m.Packet(12, -7, "m", reply(t, 9, 6, nil)); len(l) != 1 || m.ID != 0 {
		t.Errorf("%v", m.Plan)
	}
}

// pulling is a mirror that waits for a stream with the ID 44, since 12.
func pulling(t *testing.T, s *slots.Store) *mirror.Mirror {
	m := made(t, s, "m", "n")
	m.Tick(10, 9)
	m.Packet(12, 44, "m", reply(t, 9, 6, nil))
	if m.Phase != mirror.Pulling {
		t.Fatal("it does not pull")
	}
	return m
}

func TestStream(t *testing.T) { // P17.4, P17.6
	good := signed(t, 6, times{200, 20, 400})
	for _, s := range []*slots.Store{holding(t, 5, 7, usual), empty(t)} {
		m := pulling(t, s)
		had := serialOf(t, m)
		b := stream(t, 44, good)
		m.Stream(14, b[:30])
		m.Stream(-1, b[30:])
		m.Stream(api.MaxTime+1, b[30:])
		m.Stream(15)
		if m.Phase != mirror.Pulling || serialOf(t, m) != had {
			t.Fatalf("%v", m.Plan)
		}
		m.Stream(16, b[30:40], b[40:])
		if m.Plan != (mirror.Plan{Next: 216, Time: 16}) || serialOf(t, m) != 6 {
			t.Errorf("%v", m.Plan)
		}
		z, _ := m.Held()
		if c, ok := m.Copy(16); !ok || c != z || md.Check(ex, z.Records()...) != api.OK {
			t.Error("Copy")
		}
		o, _ := slots.Open(s.Disk())
		if again := made(t, o, "m"); serialOf(t, again) != 6 || again.Time != 16 {
			t.Errorf("%v", again.Plan)
		}
		before := m.Plan
		m.Stream(17, b)
		m.Closed(17)
		if m.Plan != before {
			t.Errorf("%v", m.Plan)
		}
	}
}

func TestStreamFails(t *testing.T) { // P17.4, P17.6
	good := signed(t, 6, usual)
	changed := slices.Clone(good)
	changed[1].TTL = 6
	long := strings.Repeat("d", 1000)
	var big []api.RR
	for i := range 12 {
		big = append(big, api.RR{Name: ex, Type: 400 + i, Class: 1, Data: long})
	}
	for i, c := range []struct {
		l  []api.RR
		id int
	}{
		{good, 45}, {changed, 44}, {good[:2], 44}, {slices.Delete(slices.Clone(good), 1, 2), 44}, {signed(t, 5, usual), 44}, {signed(t, 4, usual), 44}, {signed(t, 5+1<<31, usual), 44}, {signed(t, 6, usual, big...), 44},
		{append(slices.Clone(good), api.RR{Name: "\x02ey\x00", Type: 1, Class: 1, Data: "1234"}), 44},
	} {
		m := pulling(t, holding(t, 5, 7, usual))
		m.Stream(14, stream(t, c.id, c.l))
		if m.Plan != (mirror.Plan{Turn: 1, Next: 34, Time: 7}) || serialOf(t, m) != 5 {
			t.Errorf("case %d: %v", i, m.Plan)
		}
	}
	for _, c := range []struct {
		at   int
		mask byte
	}{{1, 0}, {1, 255}, {2, 255}, {2, 0}} {
		s := holding(t, 5, 7, usual)
		m := pulling(t, s)
		s.Disk().CrashAt(c.at, c.mask)
		m.Stream(14, stream(t, 44, good))
		if s.Disk().Up() || m.Plan != (mirror.Plan{Turn: 1, Next: 34, Time: 7}) || serialOf(t, m) != 5 {
			t.Errorf("a fall at %d: %v", c.at, m.Plan)
		}
	}
	m := pulling(t, empty(t))
	m.Stream(14, make([]byte, api.MaxXfer))
	if m.Plan != (mirror.Plan{Turn: 1, Next: 19}) {
		t.Errorf("%v", m.Plan)
	}
	m = pulling(t, empty(t))
	m.Closed(-1)
	m.Closed(api.MaxTime + 1)
	if m.Phase != mirror.Pulling {
		t.Errorf("%v", m.Plan)
	}
	m.Closed(20)
	if m.Plan != (mirror.Plan{Turn: 1, Next: 25}) {
		t.Errorf("%v", m.Plan)
	}
	m.Tick(25, 9)
	before := m.Plan
	m.Closed(26)
	m.Stream(26, []byte{0, 0})
	if m.Plan != before {
		t.Errorf("%v", m.Plan)
	}
}

func TestAStreamBeginsAnew(t *testing.T) { // P17.4
	m := pulling(t, empty(t))
	b := stream(t, 44, signed(t, 6, usual))
	m.Stream(14, b[:50])
	m.Closed(15)
	m.Tick(20, 9)
	m.Packet(21, 44, "n", reply(t, 9, 6, nil))
	m.Stream(22, b[50:])
	if serialOf(t, m) != -1 {
		t.Error("two streams are taken for one")
	}
}

func TestListsAreNew(t *testing.T) { // P17.5
	masters := []string{"m", "n"}
	m := made(t, empty(t), masters...)
	masters[0] = "!"
	l := m.Tick(10, 9)
	b := reply(t, 9, 6, nil)
	before := slices.Clone(b)
	if l[0].To != "m" {
		t.Errorf("%v", l)
	}
	l[0].Bytes[0] = 1
	o := m.Packet(11, 9, "m", b)
	if !slices.Equal(b, before) || len(o) != 1 {
		t.Errorf("%v", o)
	}
}
