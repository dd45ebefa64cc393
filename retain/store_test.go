package retain

import (
	"fmt"
	"math"
	"math/rand"
	"slices"
	"strings"
	"testing"

	"switchboard/api"
	"switchboard/prop"
	"switchboard/topic"
)

func set(t *testing.T, s *Store, m Message, want api.Errno) {
	t.Helper()
	if e := s.Set(m); e != want {
		t.Errorf("Set of %.40q, %.40q: %d, not %d", m.Topic, m.Payload, e, want)
	}
}

// told: the topics and payloads that are found, in their order.
func told(s *Store, filter string, now int) []string {
	var all []string
	for _, m := range s.Match(filter, now) {
		all = append(all, m.Topic+"="+m.Payload)
	}
	return all
}

func find(t *testing.T, s *Store, filter string, now int, want ...string) {
	t.Helper()
	if got := told(s, filter, now); !slices.Equal(got, want) {
		t.Errorf("Match(%.40q, %d): %.40q, not %.40q", filter, now, got, want)
	}
}

func expire(t *testing.T, s *Store, now, count, left int) {
	t.Helper()
	if n := s.Expire(now); n != count || s.Len() != left {
		t.Errorf("Expire(%d): %d, and %d are left, not %d and %d", now, n, s.Len(), count, left)
	}
}

// P12.1: a store without messages.
func TestEmptyStore(t *testing.T) {
	s := New(3)
	find(t, s, "#", 0)
	find(t, s, "a", api.MaxTime)
	expire(t, s, 0, 0, 0)
	expire(t, s, api.MaxTime, 0, 0)
	set(t, s, Message{Topic: "a"}, api.OK)
	if s.Len() != 0 || New(3) == New(3) {
		t.Errorf("Len: %d", s.Len())
	}
}

// P12.1: a store of no topic, and of below none.
func TestStoreOfNone(t *testing.T) {
	for _, most := range []int{0, -1, -7, math.MinInt} {
		s := New(most)
		set(t, s, Message{Topic: "a", Payload: "x"}, api.ErrFull)
		set(t, s, Message{Topic: "a", Payload: "x", Props: ends(0)}, api.ErrFull)
		set(t, s, Message{Topic: "a"}, api.OK)
		find(t, s, "#", 0)
		expire(t, s, 9, 0, 0)
	}
	s := New(math.MaxInt)
	set(t, s, Message{Topic: "a", Payload: "x"}, api.OK)
	find(t, s, "#", 0, "a=x")
}

// P12.1: a full store takes another message of a topic that it has, and none of one that it hasn't, until there is room.
func TestFullStore(t *testing.T) {
	s := New(2)
	set(t, s, Message{Topic: "b", Payload: "1"}, api.OK)
	set(t, s, Message{Topic: "a", Payload: "2", Props: ends(5)}, api.OK)
	set(t, s, Message{Topic: "c", Payload: "3"}, api.ErrFull)
	find(t, s, "#", 0, "a=2", "b=1")
	set(t, s, Message{Topic: "b", Payload: "4"}, api.OK)
	set(t, s, Message{Topic: "a", Payload: "5", Props: ends(6)}, api.OK)
	find(t, s, "#", 0, "a=5", "b=4")
	// What is gone has its place until it is taken away.
	find(t, s, "#", 6, "b=4")
	set(t, s, Message{Topic: "c", Payload: "6", At: 6}, api.ErrFull)
	if s.Len() != 2 {
		t.Errorf("Len: %d", s.Len())
	}
	expire(t, s, 6, 1, 1)
	set(t, s, Message{Topic: "c", Payload: "7"}, api.OK)
	set(t, s, Message{Topic: "a", Payload: "8"}, api.ErrFull)
	// One without payload finds room in any store, and makes it where its topic has one.
	set(t, s, Message{Topic: "d"}, api.OK)
	set(t, s, Message{Topic: "a", Payload: "8"}, api.ErrFull)
	set(t, s, Message{Topic: "b"}, api.OK)
	set(t, s, Message{Topic: "b"}, api.OK)
	if s.Len() != 1 {
		t.Errorf("Len: %d", s.Len())
	}
	set(t, s, Message{Topic: "a", Payload: "8"}, api.OK)
	find(t, s, "#", 0, "a=8", "c=7")
}

// P12.1, P12.2: each topic has its last message alone, whole; one without payload takes it away, whatever else it says.
func TestLastOfEachTopic(t *testing.T) {
	s := New(9)
	first := Message{From: "me", At: 3, QoS: 2, Retain: true, Props: prop.List{{ID: prop.User, S: "k", T: "v"}, {ID: prop.Expires, N: 50}}, Topic: "a/b", Payload: "x"}
	last := Message{From: "you", At: 1, QoS: 1, Props: prop.List{{ID: prop.Content, S: "c"}}, Topic: "a/b", Payload: "y"}
	set(t, s, first, api.OK)
	if l := s.Match("a/b", 5); len(l) != 1 || !same(l[0], first) {
		t.Errorf("the first: %+v", l)
	}
	set(t, s, last, api.OK)
	if l := s.Match("a/b", 5); len(l) != 1 || !same(l[0], last) || s.Len() != 1 {
		t.Errorf("the last: %+v", l)
	}
	set(t, s, Message{From: "me", At: 9, QoS: 2, Retain: true, Props: ends(7), Topic: "a/c"}, api.OK)
	find(t, s, "#", 9, "a/b=y")
	set(t, s, Message{From: "me", At: 9, QoS: 2, Retain: true, Props: ends(7), Topic: "a/b"}, api.OK)
	find(t, s, "#", 9)
	if s.Len() != 0 {
		t.Errorf("Len: %d", s.Len())
	}
	set(t, s, first, api.OK)
	find(t, s, "#", 9, "a/b=x")
	// Topics are told apart byte by byte.
	for _, name := range []string{"a/b/", "/a/b", "A/b", "a", "a/bc", "a//b"} {
		set(t, s, Message{Topic: name}, api.OK)
	}
	find(t, s, "#", 9, "a/b=x")
	set(t, s, Message{Topic: "a/b", Payload: "\x00"}, api.OK)
	find(t, s, "#", 9, "a/b=\x00")
}

// P12.1: those that aren't gone, whose topics meet the filter, by rising topics.
func TestStoreMatch(t *testing.T) {
	names := []string{"!", "$", "$SYS/a", "$x", "/", "//", "/a", "A", "a", "a!", "a!/b", "a/", "a//b", "a/b", "a/b/c", "a0", "aa", "b", "\u00e9", "\u20ac"}
	if !slices.IsSorted(names) {
		t.Fatal("the test's own list")
	}
	rnd := rand.New(rand.NewSource(2))
	filters := []string{"#", "+", "+/#", "+/+", "a", "a/#", "a/+", "a/b", "a/+/c", "/#", "/+", "+/", "$x", "$x/#", "$SYS/+", "$SYS/#", "b/#", "c", "\u00e9", "#/a", "a#", "", "\xff"}
	for range 20 {
		s := New(len(names))
		for _, i := range rnd.Perm(len(names)) {
			set(t, s, Message{Topic: names[i], Payload: fmt.Sprint(i)}, api.OK)
		}
		for _, filter := range filters {
			var want []string
			for i, name := range names {
				if topic.Match(filter, name) {
					want = append(want, fmt.Sprint(name, "=", i))
				}
			}
			find(t, s, filter, 0, want...)
		}
	}
	s := New(9)
	set(t, s, Message{Topic: "a/b", Payload: "1"}, api.OK)
	set(t, s, Message{Topic: "$x/b", Payload: "2"}, api.OK)
	find(t, s, "#", 0, "a/b=1")
	find(t, s, "+/b", 0, "a/b=1")
	find(t, s, "$x/#", 0, "$x/b=2")
}

// P12.1, P12.3: at the tick ahead of, at and behind the end of each.
func TestStoreTicks(t *testing.T) {
	s := New(9)
	set(t, s, Message{Topic: "a", Payload: "1", At: 10, Props: ends(5)}, api.OK)
	set(t, s, Message{Topic: "b", Payload: "2", At: 10, Props: ends(6)}, api.OK)
	set(t, s, Message{Topic: "c", Payload: "3", At: 10}, api.OK)
	set(t, s, Message{Topic: "d", Payload: "4", At: 12, Props: prop.List{{ID: prop.User}, {ID: prop.Expires, N: 3}, {ID: prop.Expires, N: 90}}}, api.OK)
	set(t, s, Message{Topic: "e", Payload: "5", At: 10, Props: ends(api.Never)}, api.OK)
	find(t, s, "#", 14, "a=1", "b=2", "c=3", "d=4", "e=5")
	find(t, s, "#", 15, "b=2", "c=3", "e=5")
	find(t, s, "#", 16, "c=3", "e=5")
	find(t, s, "a", 15)
	// To be asked for a later tick takes nothing away.
	find(t, s, "#", 14, "a=1", "b=2", "c=3", "d=4", "e=5")
	find(t, s, "#", 10+api.Never-1, "c=3", "e=5")
	find(t, s, "#", 10+api.Never, "c=3")
	find(t, s, "#", api.MaxTime, "c=3")
	if s.Len() != 5 {
		t.Errorf("Len: %d", s.Len())
	}
	// Match tells the message as it was set: what is left of it is said by its Publish alone.
	if m := s.Match("b", 14)[0]; m.At != 10 || m.Props.Num(prop.Expires, 0) != 6 {
		t.Errorf("Match: %+v", m)
	}
}

// P12.1: expiring none, some and all.
func TestExpire(t *testing.T) {
	s := New(9)
	for i, name := range []string{"a", "b", "c", "d"} {
		set(t, s, Message{Topic: name, Payload: "x", At: i, Props: ends(10)}, api.OK)
	}
	set(t, s, Message{Topic: "e", Payload: "x"}, api.OK)
	expire(t, s, 0, 0, 5)
	expire(t, s, 9, 0, 5)
	expire(t, s, 10, 1, 4)
	expire(t, s, 10, 0, 4)
	find(t, s, "#", 0, "b=x", "c=x", "d=x", "e=x")
	expire(t, s, 12, 2, 2)
	expire(t, s, 5, 0, 2)
	expire(t, s, api.MaxTime, 1, 1)
	find(t, s, "#", 0, "e=x")
	set(t, s, Message{Topic: "e", Payload: "x", Props: ends(1)}, api.OK)
	expire(t, s, 1, 1, 0)
	find(t, s, "#", 0)
	for i := range 9 {
		set(t, s, Message{Topic: fmt.Sprint(i), Payload: "x", Props: ends(uint32(i))}, api.OK)
	}
	expire(t, s, api.MaxTime, 9, 0)
}

// K3: what is handed in isn't kept, and what is answered is the caller's own, each list of it.
func TestStoreSharesNothing(t *testing.T) {
	s := New(9)
	props := prop.List{{ID: prop.User, S: "k", T: "v"}, {ID: prop.Expires, N: 9}}
	set(t, s, Message{Topic: "a", Payload: "x", Props: props}, api.OK)
	set(t, s, Message{Topic: "b", Payload: "x", Props: props}, api.OK)
	props[0].S, props[1].N = "changed", 1
	check := func(what string) {
		t.Helper()
		l := s.Match("#", 5)
		if len(l) != 2 {
			t.Fatalf("%s: %v", what, l)
		}
		for _, m := range l {
			if m.Props[0].S != "k" || m.Props[1].N != 9 {
				t.Errorf("%s: %+v", what, m)
			}
		}
	}
	check("what was handed in")
	l := s.Match("#", 5)
	l[0].Props[0].S, l[0].Props[1].N = "changed", 1
	if l[1].Props[0].S != "k" {
		t.Error("two lists of an answer are one")
	}
	l[1] = Message{}
	_ = append(l[0].Props[:1], prop.Prop{})
	check("what was answered")
	l = s.Match("#", 5)
	set(t, s, Message{Topic: "a", Payload: "y", Props: ends(100)}, api.OK)
	set(t, s, Message{Topic: "b"}, api.OK)
	if l[0].Payload != "x" || l[0].Props[0].S != "k" || l[1].Payload != "x" || l[1].Props[1].N != 9 {
		t.Errorf("what was answered changed with the store: %+v", l)
	}
}

// model is a store by the chapter's words: a list of messages.
type model struct {
	most int
	l    []Message
}

func (s *model) set(m Message) api.Errno {
	i := slices.IndexFunc(s.l, func(x Message) bool { return x.Topic == m.Topic })
	switch {
	case m.Payload == "" && i >= 0:
		s.l = slices.Delete(s.l, i, i+1)
	case m.Payload == "":
	case i >= 0:
		s.l[i] = m
	case len(s.l) >= s.most:
		return api.ErrFull
	default:
		s.l = append(s.l, m)
	}
	return api.OK
}

// over: is it gone, by its first property 2?
func over(m Message, now int) bool {
	for _, p := range m.Props {
		if p.ID == 2 {
			return now >= m.At+int(p.N)
		}
	}
	return false
}

func (s *model) match(filter string, now int) []string {
	var all []string
	for _, m := range s.l {
		if topic.Match(filter, m.Topic) && !over(m, now) {
			all = append(all, m.Topic+"="+m.Payload)
		}
	}
	slices.SortFunc(all, func(a, b string) int {
		return strings.Compare(a[:strings.Index(a, "=")], b[:strings.Index(b, "=")])
	})
	return all
}

func (s *model) expire(now int) int {
	ahead := len(s.l)
	s.l = slices.DeleteFunc(s.l, func(m Message) bool { return over(m, now) })
	return ahead - len(s.l)
}

// P12.1, P12.2: any calls, and each is answered as the model says.
func TestAnyCalls(t *testing.T) {
	names := []string{"a", "a/b", "a/c", "b", "$x", "/", "a/", "", "+", "a!"}
	filters := []string{"#", "+", "a/#", "a/+", "+/b", "$x", "/", "a", "b", ""}
	for seed := range int64(100) {
		rnd := rand.New(rand.NewSource(seed))
		most := rnd.Intn(9) - 1
		s, m := New(most), &model{most: max(most, 0)}
		for now := range 300 {
			x := Message{Topic: names[rnd.Intn(len(names))], At: now, From: "me"}
			if rnd.Intn(4) > 0 {
				x.Payload = fmt.Sprint(now)
			}
			for range rnd.Intn(3) {
				x.Props = append(x.Props, prop.Prop{ID: 1 + rnd.Intn(3), N: uint32(rnd.Intn(40))})
			}
			if got, want := s.Set(x), m.set(x); got != want {
				t.Fatalf("seed %d, tick %d: Set: %d, not %d", seed, now, got, want)
			}
			for _, filter := range filters {
				if got, want := told(s, filter, now), m.match(filter, now); !slices.Equal(got, want) {
					t.Fatalf("seed %d, tick %d: Match(%q): %q, not %q", seed, now, filter, got, want)
				}
			}
			if rnd.Intn(10) == 0 {
				if got, want := s.Expire(now), m.expire(now); got != want {
					t.Fatalf("seed %d, tick %d: Expire: %d, not %d", seed, now, got, want)
				}
			}
			if s.Len() != len(m.l) || s.Len() > max(most, 0) {
				t.Fatalf("seed %d, tick %d: Len: %d, not %d", seed, now, s.Len(), len(m.l))
			}
		}
	}
}

// P1: wrong inputs: topics and filters that layer 10 doesn't let.
func TestWrongTexts(t *testing.T) {
	deep := strings.Repeat("a/", 100000)
	wrong := []string{"", "#", "+", "#/a", "+a", "\xff", "\x00", deep, strings.Repeat("x", api.MaxText+1), "$share/g/a"}
	slices.Sort(wrong)
	s := New(len(wrong))
	for _, name := range wrong {
		set(t, s, Message{Topic: name, Payload: "x", From: "\xff"}, api.OK)
	}
	for _, filter := range append(slices.Clone(wrong), "$share/+/#", deep+"#") {
		var want []string
		for _, name := range wrong {
			if topic.Match(filter, name) {
				want = append(want, name+"=x")
			}
		}
		find(t, s, filter, 0, want...)
	}
	for i, name := range wrong {
		set(t, s, Message{Topic: name}, api.OK)
		if s.Len() != len(wrong)-1-i {
			t.Errorf("Len: %d", s.Len())
		}
	}
}
