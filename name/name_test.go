package name_test

import (
	"math/rand"
	"sort"
	"strings"
	"testing"

	"rhizome/api"
	"rhizome/name"
)

// of makes a name without asking the package.
func of(labels ...string) string {
	var b strings.Builder
	for _, s := range labels {
		b.WriteByte(byte(len(s)))
		b.WriteString(s)
	}
	return b.String() + "\x00"
}

var long = strings.Repeat("x", 63)

func TestMay(t *testing.T) { // P2.1
	full := of(long, long, long, long[:61])
	for _, n := range []string{"\x00", of("a"), of("a", "b"), of(long), full, of("\x00\xff.\\"), of("@["), of("z")} {
		if !name.May(n) {
			t.Errorf("%q may be", n)
		}
	}
	if len(full) != 255 {
		t.Fatal(len(full))
	}
	for _, n := range []string{
		"", "a", "\x01", "\x01a", "\x00\x00", of("a") + "\x00", of("a") + "b", "\x02a\x00", of("A"), of("aZ", "b"), of("b", "M"),
		of(long + "x"), of(long, long, long, long[:62]), "\x40" + long + "x\x00", "\xc0\x0c", "\xff",
	} {
		if name.May(n) {
			t.Errorf("%q may not be", n)
		}
	}
}

func TestLower(t *testing.T) { // P2.1
	for s, want := range map[string]string{"": "", "AZ": "az", "az": "az", "@[`{": "@[`{", "\x01A\x00": "\x01a\x00", "\xc3\x84É": "\xc3\x84É", "K\xff": "k\xff", "\u212a": "\u212a"} {
		if got := name.Lower(s); got != want {
			t.Errorf("Lower(%q): %q", s, got)
		}
	}
}

func TestJoinAndLabels(t *testing.T) { // P2.1, P2.5
	for _, c := range []struct {
		labels []string
		want   string
		e      api.Errno
	}{
		{nil, "\x00", api.OK}, {[]string{"Ab", "c"}, of("ab", "c"), api.OK}, {[]string{"\x00A."}, of("\x00a."), api.OK},
		{[]string{long, long, long, long[:61]}, of(long, long, long, long[:61]), api.OK},
		{[]string{long, long, long, long[:62]}, "", api.ErrLong}, {[]string{""}, "", api.ErrForm}, {[]string{"a", ""}, "", api.ErrForm},
		{[]string{long + "x", ""}, "", api.ErrLong}, {[]string{"", long + "x"}, "", api.ErrForm},
		{[]string{long, long, long, long, long, ""}, "", api.ErrForm}, {[]string{long + "x"}, "", api.ErrLong},
	} {
		n, e := name.Join(c.labels...)
		if n != c.want || e != c.e {
			t.Errorf("Join(%q): %q, %d", c.labels, n, e)
		}
		if e == api.OK && of(name.Labels(n)...) != n {
			t.Errorf("Labels(%q): %q", n, name.Labels(n))
		}
	}
	for _, n := range []string{"\x00", "", of("A"), "\x01a", of("a") + "x"} {
		if l := name.Labels(n); len(l) != 0 {
			t.Errorf("Labels(%q): %q", n, l)
		}
	}
}

func TestParse(t *testing.T) { // P2.2
	for text, want := range map[string]string{
		".": "\x00", "Ab.c": of("ab", "c"), "ab.c.": of("ab", "c"), `a\.b.c`: of("a.b", "c"), `a\\.b`: of(`a\`, "b"), `a\\\.`: of(`a\.`),
		`\000\255`: of("\x00\xff"), `\065`: of("a"), `\046.`: of("."), `a\.`: of("a."), `!~`: of("!~"), `\0921`: of(`\1`),
		strings.Repeat("a.", 127): strings.Repeat("\x01a", 127) + "\x00",
	} {
		if n, e := name.Parse(text); n != want || e != api.OK {
			t.Errorf("Parse(%q): %q, %d", text, n, e)
		}
	}
	for text, want := range map[string]api.Errno{
		"": api.ErrForm, "..": api.ErrForm, "a..": api.ErrForm, ".a": api.ErrForm, "a..b": api.ErrForm, "a b": api.ErrForm, "a\x7f": api.ErrForm,
		"\x80": api.ErrForm, "\xff": api.ErrForm, `\`: api.ErrForm, `a\`: api.ErrForm, `\a`: api.ErrForm, `\1`: api.ErrForm, `\12`: api.ErrForm,
		`\12.`: api.ErrForm, `\12x`: api.ErrForm, `\256`: api.ErrForm, `\999`: api.ErrForm, `\-01`: api.ErrForm, "\x20": api.ErrForm,
		long + "x": api.ErrLong, long + "x..": api.ErrForm, long + "x. ": api.ErrForm, long + `x.\256`: api.ErrForm,
		strings.Repeat("a.", 128): api.ErrLong, strings.Repeat("a.", 128) + ".": api.ErrForm,
	} {
		if n, e := name.Parse(text); n != "" || e != want {
			t.Errorf("Parse(%q): %q, %d", text, n, e)
		}
	}
}

func TestPrint(t *testing.T) { // P2.2, P2.5
	for n, want := range map[string]string{
		"\x00": ".", of("ab", "c"): "ab.c.", of("a.b", `c\`): `a\.b.c\\.`, of("\x00 !~\x7f\xff"): `\000\032!~\127\255.`,
	} {
		if text, e := name.Print(n); text != want || e != api.OK {
			t.Errorf("Print(%q): %q, %d", n, text, e)
		}
	}
	for _, n := range []string{"", "a", of("A"), of("a") + "\x00"} {
		if text, e := name.Print(n); text != "" || e != api.ErrName {
			t.Errorf("Print(%q): %q, %d", n, text, e)
		}
	}
	for c := range 256 {
		if c >= 'A' && c <= 'Z' {
			continue
		}
		n := of("x"+string([]byte{byte(c)}), string([]byte{byte(c), 'y'}))
		text, _ := name.Print(n)
		if back, e := name.Parse(text); back != n || e != api.OK {
			t.Errorf("Parse of Print(%q): %q, %d", n, back, e)
		}
	}
}

func TestCompareIsRFC4034(t *testing.T) { // P2.3, P2.5
	rising := []string{
		"\x00", of("\x00"), of("\x01"), of("*"), of("a"), of("\x00", "a"), of("b", "a"), of("z", "a"), of("aa"), of("ab"), of("b"), of("a", "b"), of("\xff"),
		"", "\x00\x00", of("A"), "\x01a", "zz", "\xff",
	}
	for i, a := range rising {
		for j, b := range rising {
			want := 0
			if i < j {
				want = -1
			} else if i > j {
				want = 1
			}
			if got := name.Compare(a, b); got != want {
				t.Errorf("Compare(%q, %q): %d", a, b, got)
			}
		}
	}
	if name.Compare(of("a", "b"), of("z", "a")) != 1 {
		t.Error("the example")
	}
	r := rand.New(rand.NewSource(2))
	var l []string
	for range 60 {
		var labels []string
		for range r.Intn(4) {
			labels = append(labels, strings.Repeat(string([]byte{byte('a' + r.Intn(2))}), 1+r.Intn(2)))
		}
		l = append(l, of(labels...))
	}
	sort.Slice(l, func(i, j int) bool { return name.Compare(l[i], l[j]) < 0 })
	for i := range l {
		for j := range l {
			if c := name.Compare(l[i], l[j]); i < j && c > 0 || c == 0 && l[i] != l[j] || name.Under(l[j], l[i]) && c > 0 {
				t.Fatalf("%q, %q: %d", l[i], l[j], c)
			}
		}
	}
}

func TestUnder(t *testing.T) { // P2.3
	for _, c := range []struct {
		n, zone string
		want    bool
	}{
		{of("a", "b"), of("b"), true}, {of("b"), of("b"), true}, {of("b"), "\x00", true}, {"\x00", "\x00", true}, {"\x00", of("b"), false},
		{of("ab"), of("b"), false}, {of("b"), of("a", "b"), false}, {of("a", "b"), of("a"), false}, {of("x\x01b"), of("b"), false},
		{of("A", "b"), of("b"), false}, {of("a", "B"), of("B"), false}, {"", "", false}, {of("a"), "", false}, {"a", "a", false}, {of("x\x00"), "\x00\x00", false},
	} {
		if name.Under(c.n, c.zone) != c.want {
			t.Errorf("Under(%q, %q)", c.n, c.zone)
		}
	}
}

func TestParent(t *testing.T) { // P2.3
	if p, ok := name.Parent(of("a", "b")); p != of("b") || !ok {
		t.Errorf("%q, %t", p, ok)
	}
	if p, ok := name.Parent(of("a")); p != "\x00" || !ok {
		t.Errorf("%q, %t", p, ok)
	}
	for _, n := range []string{"\x00", "", of("A", "b"), "\x01a", of("a") + "x"} {
		if p, ok := name.Parent(n); p != "" || ok {
			t.Errorf("Parent(%q): %q", n, p)
		}
	}
}

func TestCommon(t *testing.T) { // P2.3
	for _, c := range []struct {
		l    []string
		want string
	}{
		{[]string{of("a")}, of("a")}, {[]string{of("a", "b"), of("c", "b")}, of("b")}, {[]string{of("a", "b"), of("b")}, of("b")}, {[]string{of("b"), of("a", "b")}, of("b")},
		{[]string{of("a", "b"), of("a", "c")}, "\x00"}, {[]string{of("xb"), of("b")}, "\x00"}, {[]string{"\x00", of("b")}, "\x00"},
		{[]string{of("a", "b", "c"), of("x", "b", "c"), of("y", "c")}, of("c")}, {[]string{""}, ""}, {[]string{of("A")}, ""}, {[]string{of("a"), ""}, ""}, {[]string{"", of("a")}, ""},
		{[]string{of("a"), of("b"), "x"}, ""},
	} {
		if got := name.Common(c.l[0], c.l[1:]...); got != c.want {
			t.Errorf("Common(%q): %q", c.l, got)
		}
	}
}

func TestArgumentsStay(t *testing.T) { // P2.4
	l := []string{"A", "b", "c"}
	n, _ := name.Join(l[:2]...)
	labels := name.Labels(n)
	labels[0] = "q"
	if l[0] != "A" || l[2] != "c" || name.Labels(n)[0] != "a" {
		t.Errorf("%q, %q", l, name.Labels(n))
	}
	more := []string{of("a"), of("b")}
	name.Common(of("a"), more[:1]...)
	if more[0] != of("a") || more[1] != of("b") {
		t.Errorf("%q", more)
	}
}
