package alias

import (
	"math"
	"math/rand"
	"reflect"
	"strings"
	"testing"

	"switchboard/api"
	"switchboard/prop"
	"switchboard/publish"
)

// given is a topic that came with an alias.
type given struct {
	n    uint32
	name string
}

// model is a table by the chapter's words: all that was ever given, the last one last.
type model struct {
	most uint32
	all  []given
}

func (m *model) get(n uint32) (string, bool) {
	for i := len(m.all) - 1; i >= 0; i-- {
		if m.all[i].n == n {
			return m.all[i].name, true
		}
	}
	return "", false
}

func (m *model) len() int {
	count := 0
	for i, x := range m.all {
		first := true
		for _, y := range m.all[:i] {
			first = first && y.n != x.n
		}
		if first {
			count++
		}
	}
	return count
}

// name: of a topic, which may be none, and the aliases that a publish has.
func (m *model) name(name string, isName bool, aliases []uint32) (string, api.Errno) {
	switch {
	case len(aliases) > 0 && (aliases[0] == 0 || aliases[0] > m.most):
		return "", api.ErrAlias
	case name == "" && len(aliases) == 0:
		return "", api.ErrProto
	case name == "":
		s, is := m.get(aliases[0])
		if !is {
			return "", api.ErrProto
		}
		return s, api.OK
	case !isName:
		return "", api.ErrName
	case len(aliases) > 0:
		m.all = append(m.all, given{aliases[0], name})
	}
	return name, api.OK
}

// of is a publish of a topic and aliases, with other properties ahead of them, between them and behind them.
func of(name string, aliases ...uint32) publish.Publish {
	p := publish.Publish{QoS: 1, ID: 7, Retain: true, Topic: name, Payload: "payload",
		Props: prop.List{{ID: prop.User, N: 1, S: "k", T: "v"}, {ID: prop.Expires, N: 2}}}
	for _, n := range aliases {
		p.Props = append(p.Props, prop.Prop{ID: prop.Alias, N: n}, prop.Prop{ID: prop.AliasMax, N: 3})
	}
	return p
}

func is(t *testing.T, x *Table, p publish.Publish, want string) {
	t.Helper()
	if s, e := x.Name(p); s != want || e != api.OK {
		t.Fatalf("Name %q %v: %q, %d, not %q", p.Topic, p.Props, s, e, want)
	}
}

func fails(t *testing.T, x *Table, p publish.Publish, want api.Errno) {
	t.Helper()
	if s, e := x.Name(p); s != "" || e != want {
		t.Fatalf("Name %q %v: %q, %d, not %d", p.Topic, p.Props, s, e, want)
	}
}

// holds: just these stand for topics.
func holds(t *testing.T, x *Table, want map[uint32]string) {
	t.Helper()
	if x.Len() != len(want) {
		t.Fatalf("Len: %d, not %d", x.Len(), len(want))
	}
	for _, n := range []uint32{0, 1, 2, 3, 4, 5, 65534, 65535, 65536, 65537, 1 << 31, math.MaxUint32} {
		name, has := want[n]
		if s, ok := x.Get(n); s != name || ok != has {
			t.Fatalf("Get(%d): %q, %v, not %q, %v", n, s, ok, name, has)
		}
	}
}

type held = map[uint32]string

// P17.1: the chapter's example.
func TestExample(t *testing.T) {
	x := New(10)
	is(t, x, of("a", 1), "a")
	is(t, x, of("", 1), "a")
	fails(t, x, of("", 2), api.ErrProto)
	holds(t, x, held{1: "a"})
}

// P17.1: a table in which none stands for any; two of them are two.
func TestNone(t *testing.T) {
	x, other := New(5), New(5)
	holds(t, x, nil)
	for n := range uint32(6) {
		if s, ok := x.Get(n); s != "" || ok {
			t.Errorf("Get(%d): %q", n, s)
		}
	}
	is(t, x, of("a", 5), "a")
	holds(t, x, held{5: "a"})
	holds(t, other, nil)
	fails(t, other, of("", 5), api.ErrProto)
	is(t, other, of("b", 5), "b")
	is(t, x, of("", 5), "a")
	is(t, other, of("", 5), "b")
}

// P17.1: a table of no alias refuses all, whatever topic comes with it; without one topics are told.
func TestTableOfNone(t *testing.T) {
	x := New(0)
	for _, n := range []uint32{0, 1, 2, 65535, 65536, math.MaxUint32} {
		for _, name := range []string{"a", "", "a/+"} {
			fails(t, x, of(name, n), api.ErrAlias)
		}
	}
	is(t, x, of("a"), "a")
	fails(t, x, of(""), api.ErrProto)
	fails(t, x, of("#"), api.ErrName)
	holds(t, x, nil)
}

// P17.1, P17.2: the greatest alias, as it is asked for and as it is: it may be, and the one above it and 0 may not.
func TestGreatest(t *testing.T) {
	for _, c := range [][2]uint32{{1, 1}, {2, 2}, {3, 3}, {255, 255}, {256, 256}, {65534, 65534}, {65535, 65535}, {65536, 65535}, {65537, 65535}, {1 << 17, 65535}, {1 << 31, 65535}, {math.MaxUint32, 65535}} {
		x, most := New(c[0]), c[1]
		for _, n := range []uint32{0, most + 1, most + 2, 1 << 20, math.MaxUint32} {
			fails(t, x, of("a", n), api.ErrAlias)
			fails(t, x, of("", n), api.ErrAlias)
		}
		holds(t, x, nil)
		fails(t, x, of("", 1), api.ErrProto)
		fails(t, x, of("", most), api.ErrProto)
		is(t, x, of("a", 1), "a")
		is(t, x, of("b", most), "b")
		is(t, x, of("", most), "b")
		fails(t, x, of("c", most+1), api.ErrAlias)
		fails(t, x, of("", most+1), api.ErrAlias)
		if s, ok := x.Get(most); s != "b" || !ok {
			t.Errorf("of %d: Get: %q, %v", c[0], s, ok)
		}
		if want := int(min(most, 2)); x.Len() != want {
			t.Errorf("of %d: Len: %d, not %d", c[0], x.Len(), want)
		}
	}
}

// P17.1: all aliases that there are may stand for topics, each for its own one.
func TestAll(t *testing.T) {
	x := New(65536)
	name := func(n uint32) string { return "n" + strings.Repeat("/x", int(n%5)) + "/" + string(rune(n%1000+1000)) }
	for n := uint32(65535); n > 0; n-- {
		is(t, x, of(name(n), n), name(n))
	}
	fails(t, x, of("a", 65536), api.ErrAlias)
	for n := uint32(1); n <= 65535; n++ {
		if s, ok := x.Get(n); s != name(n) || !ok {
			t.Fatalf("Get(%d): %q, %v", n, s, ok)
		}
		is(t, x, of("", n), name(n))
	}
	if x.Len() != 65535 {
		t.Errorf("Len: %d", x.Len())
	}
}

// P17.1: without an alias a topic is told, and nothing stands for it.
func TestWithoutAlias(t *testing.T) {
	x := New(3)
	for range 2 {
		is(t, x, of("a"), "a")
		is(t, x, publish.Publish{Topic: "b/c"}, "b/c")
		fails(t, x, of(""), api.ErrProto)
		fails(t, x, publish.Publish{}, api.ErrProto)
		holds(t, x, nil)
	}
	is(t, x, of("a", 1), "a")
	is(t, x, of("b"), "b")
	fails(t, x, of(""), api.ErrProto)
	holds(t, x, held{1: "a"})
}

// P17.1: another property's number is no alias.
func TestOtherProperties(t *testing.T) {
	x := New(3)
	for _, id := range []int{0, 1, prop.Receive, prop.AliasMax, 36, -35, 35 + 256, 35 + 1<<32} {
		fails(t, x, publish.Publish{Props: prop.List{{ID: id, N: 1}}}, api.ErrProto)
		is(t, x, publish.Publish{Topic: "a", Props: prop.List{{ID: id, N: 1}}}, "a")
		is(t, x, publish.Publish{Topic: "a", Props: prop.List{{ID: id, N: 9}}}, "a")
		holds(t, x, nil)
		is(t, x, publish.Publish{Topic: "b", Props: prop.List{{ID: id, N: 9}, {ID: prop.Alias, N: 2}}}, "b")
		holds(t, x, held{2: "b"})
		is(t, x, publish.Publish{Props: prop.List{{ID: id, N: 9}, {ID: prop.Alias, N: 2, S: "s", T: "t"}}}, "b")
		x = New(3)
	}
}

// P17.1: of several aliases the first one counts, whatever the others are.
func TestSeveral(t *testing.T) {
	x := New(3)
	is(t, x, of("a", 2, 1, 3), "a")
	holds(t, x, held{2: "a"})
	is(t, x, of("b", 1, 1), "b")
	is(t, x, of("c", 3, 0, 4, 70000), "c")
	holds(t, x, held{1: "b", 2: "a", 3: "c"})
	is(t, x, of("", 2, 1), "a")
	is(t, x, of("", 1, 2), "b")
	is(t, x, of("", 3, 0), "c")
	fails(t, x, of("", 0, 1), api.ErrAlias)
	fails(t, x, of("d", 4, 1), api.ErrAlias)
	fails(t, x, of("d/+", 1, 4), api.ErrName)
	holds(t, x, held{1: "b", 2: "a", 3: "c"})
	y := New(3)
	is(t, y, of("a", 1), "a")
	fails(t, y, of("", 2, 1), api.ErrProto)
	holds(t, y, held{1: "a"})
}

// P17.1, P17.2: without a topic an alias is told as it stands, and goes on standing for it.
func TestWithoutTopic(t *testing.T) {
	x := New(3)
	for _, n := range []uint32{1, 2, 3} {
		fails(t, x, of("", n), api.ErrProto)
	}
	is(t, x, of("a/b", 2), "a/b")
	for range 3 {
		fails(t, x, of("", 1), api.ErrProto)
		is(t, x, of("", 2), "a/b")
		fails(t, x, of("", 3), api.ErrProto)
		holds(t, x, held{2: "a/b"})
	}
}

// names are those that may be, at the edges of layer 10.
func names() []string {
	return []string{"a", "/", "//", " ", "$share/g/a", "$x", "é/\U0001F600", strings.Repeat("/", 31), strings.Repeat("a", 65535)}
}

// wrongs are texts that may be no names.
func wrongs() []string {
	return []string{"+", "#", "a/+", "a/#", "a+", "#a", "a\x00", "\x00", "\xff", "a/\xc3", "\xed\xa0\x80", strings.Repeat("/", 32), strings.Repeat("a", 65536)}
}

// P17.1: topics that may be names, with and without an alias.
func TestNames(t *testing.T) {
	x := New(3)
	for _, name := range names() {
		is(t, x, of(name), name)
		is(t, x, of(name, 3), name)
		is(t, x, of("", 3), name)
		holds(t, x, held{3: name})
	}
}

// P17.1, P17.2: topics that may be no names, with an alias and without one; one that is out of range is told first.
func TestNoNames(t *testing.T) {
	x, y := New(3), New(3)
	is(t, y, of("a", 1), "a")
	for _, name := range wrongs() {
		fails(t, x, of(name), api.ErrName)
		for _, n := range []uint32{1, 2, 3} {
			fails(t, x, of(name, n), api.ErrName)
			fails(t, y, of(name, n), api.ErrName)
		}
		for _, n := range []uint32{0, 4, 65535, 65536, math.MaxUint32} {
			fails(t, x, of(name, n), api.ErrAlias)
			fails(t, x, of(name, n, 1), api.ErrAlias)
		}
		fails(t, x, of("", 1), api.ErrProto)
		holds(t, x, nil)
		is(t, y, of("", 1), "a")
		holds(t, y, held{1: "a"})
	}
}

// P17.2: an alias stands for the last topic that came with it; others stand for what they did.
func TestAnew(t *testing.T) {
	x := New(3)
	is(t, x, of("a", 1), "a")
	is(t, x, of("a", 2), "a")
	holds(t, x, held{1: "a", 2: "a"})
	for _, name := range []string{"b", "b", "c/d", "a", "longer/than/all/the/others", "a"} {
		is(t, x, of(name, 1), name)
		is(t, x, of("", 1), name)
		is(t, x, of("", 2), "a")
		is(t, x, of("other"), "other")
		holds(t, x, held{1: name, 2: "a"})
	}
}

// P17.2: an error changes nothing, whichever it is, however often it comes.
func TestErrors(t *testing.T) {
	x := New(3)
	is(t, x, of("a", 1), "a")
	is(t, x, of("b", 3), "b")
	for range 2 {
		for _, c := range []struct {
			p publish.Publish
			e api.Errno
		}{{of("c", 0), api.ErrAlias}, {of("c", 4), api.ErrAlias}, {of("", 0), api.ErrAlias}, {of("", 4), api.ErrAlias}, {of("", 65536), api.ErrAlias}, {of("", 2), api.ErrProto}, {of(""), api.ErrProto}, {of("c/#", 1), api.ErrName}, {of("c/#", 2), api.ErrName}, {of("+"), api.ErrName}} {
			fails(t, x, c.p, c.e)
			holds(t, x, held{1: "a", 3: "b"})
			is(t, x, of("", 1), "a")
			is(t, x, of("", 3), "b")
		}
	}
	is(t, x, of("c", 2), "c")
	is(t, x, of("d", 1), "d")
	holds(t, x, held{1: "d", 2: "c", 3: "b"})
}

// P17.1: a publish's other parts don't matter.
func TestOtherParts(t *testing.T) {
	x := New(3)
	for i, p := range []publish.Publish{{Dup: true}, {Retain: true}, {QoS: 2, ID: 9}, {QoS: 9}, {Payload: "b"}, {ID: math.MaxUint32}} {
		name := "n" + string(rune('0'+i))
		p.Topic, p.Props = name, prop.List{{ID: prop.Alias, N: 1}}
		is(t, x, p, name)
		p.Topic = ""
		is(t, x, p, name)
		holds(t, x, held{1: name})
	}
}

// K3: what was handed in isn't changed, and what changes of it behind that doesn't show.
func TestOwn(t *testing.T) {
	x := New(3)
	p, was := of("a", 1, 2), of("a", 1, 2)
	is(t, x, p, "a")
	if !reflect.DeepEqual(p, was) {
		t.Errorf("the publish changed: %v", p)
	}
	for i := range p.Props {
		p.Props[i] = prop.Prop{ID: prop.Alias, N: 3, S: "z"}
	}
	p.Topic = "z"
	holds(t, x, held{1: "a"})
	is(t, x, of("", 1), "a")
	fails(t, x, of("", 3), api.ErrProto)
}

// P17.1, P17.2: any publishes, and each is answered as the model says, and the same way of two tables (K4).
func TestAnyCalls(t *testing.T) {
	good := append(names()[:7], "b", "c/d", "e")
	bad := wrongs()[:8]
	for seed := range int64(300) {
		rnd := rand.New(rand.NewSource(seed))
		most := uint32(rnd.Intn(6))
		x, twin, m := New(most), New(most), &model{most: most}
		for step := range 120 {
			name, isName := good[rnd.Intn(len(good))], true
			switch rnd.Intn(8) {
			case 0:
				name, isName = bad[rnd.Intn(len(bad))], false
			case 1, 2, 3:
				name, isName = "", false
			}
			var aliases []uint32
			for range rnd.Intn(4) {
				aliases = append(aliases, uint32(rnd.Intn(int(most)+2)))
			}
			want, err := m.name(name, isName, aliases)
			s, e := x.Name(of(name, aliases...))
			r, d := twin.Name(of(name, aliases...))
			if s != want || e != err || r != want || d != err {
				t.Fatalf("seed %d, step %d: Name %q %v: %q, %d, not %q, %d", seed, step, name, aliases, s, e, want, err)
			}
			if x.Len() != m.len() || twin.Len() != m.len() {
				t.Fatalf("seed %d, step %d: Len: %d, not %d", seed, step, x.Len(), m.len())
			}
			for n := range most + 3 {
				want, has := m.get(n)
				if s, ok := x.Get(n); s != want || ok != has {
					t.Fatalf("seed %d, step %d: Get(%d): %q, %v, not %q, %v", seed, step, n, s, ok, want, has)
				}
			}
		}
	}
}
