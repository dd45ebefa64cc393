package retain

import (
	"math"
	"math/rand"
	"reflect"
	"slices"
	"testing"

	"switchboard/api"
	"switchboard/prop"
	"switchboard/publish"
)

// ends: properties by which a message may be told for so many ticks.
func ends(n uint32) prop.List {
	return prop.List{{ID: prop.Expires, N: n}}
}

// same: K1 has it that a list that is nil and an empty one are the same.
func same(a, b Message) bool {
	a.Props, b.Props = slices.Concat(a.Props), slices.Concat(b.Props)
	return reflect.DeepEqual(a, b)
}

func samePublish(a, b publish.Publish) bool {
	a.Props, b.Props = slices.Concat(a.Props), slices.Concat(b.Props)
	return reflect.DeepEqual(a, b)
}

// P12.1: the message of a publish: with each thing, and without.
func TestOf(t *testing.T) {
	user := prop.Prop{ID: prop.User, S: "k", T: "v"}
	expires := prop.Prop{ID: prop.Expires, N: 9}
	alias, subscribed := prop.Prop{ID: prop.Alias, N: 3}, prop.Prop{ID: prop.Subscribed, N: 4}
	for _, c := range []struct {
		name  string
		p     publish.Publish
		topic string
		from  string
		now   int
		want  Message
	}{
		{"nothing", publish.Publish{}, "", "", 0, Message{}},
		{"all", publish.Publish{Dup: true, Retain: true, QoS: 2, ID: 7, Props: prop.List{user, expires}, Topic: "b", Payload: "x"}, "a/b", "me", 10,
			Message{From: "me", At: 10, QoS: 2, Retain: true, Props: prop.List{user, expires}, Topic: "a/b", Payload: "x"}},
		{"not retained", publish.Publish{QoS: 1, ID: 7, Topic: "a", Payload: "x"}, "a", "you", 1, Message{From: "you", At: 1, QoS: 1, Topic: "a", Payload: "x"}},
		{"no topic of its own", publish.Publish{Props: prop.List{alias}, Payload: "x"}, "a", "", 1, Message{At: 1, Topic: "a", Payload: "x"}},
		{"no payload", publish.Publish{Retain: true, Topic: "a"}, "a", "me", 2, Message{From: "me", At: 2, Retain: true, Topic: "a"}},
		{"only 35 and 11", publish.Publish{Props: prop.List{subscribed, alias, subscribed}}, "a", "", 0, Message{Topic: "a"}},
		{"35 and 11 among others", publish.Publish{Props: prop.List{alias, user, subscribed, expires, subscribed, user, alias}}, "a", "", 0, Message{Props: prop.List{user, expires, user}, Topic: "a"}},
		{"several 2", publish.Publish{Props: prop.List{expires, alias, expires}}, "a", "", 0, Message{Props: prop.List{expires, expires}, Topic: "a"}},
		{"others that none may have", publish.Publish{QoS: 200, Props: prop.List{{ID: -1, N: 1, S: "s", T: "t"}, {ID: 0}, {ID: 34}, {ID: 36}, {ID: 10}, {ID: 12}}}, "+", "\xff", api.MaxTime,
			Message{From: "\xff", At: api.MaxTime, QoS: 200, Props: prop.List{{ID: -1, N: 1, S: "s", T: "t"}, {ID: 0}, {ID: 34}, {ID: 36}, {ID: 10}, {ID: 12}}, Topic: "+"}},
	} {
		kept := slices.Clone(c.p.Props)
		m := Of(c.p, c.topic, c.from, c.now)
		if !same(m, c.want) {
			t.Errorf("%s: %+v, not %+v", c.name, m, c.want)
		}
		if !slices.Equal(c.p.Props, kept) {
			t.Errorf("%s: the publish has %v now", c.name, c.p.Props)
		}
	}
}

// K3: a message shares nothing with its publish, nor a publish with its message.
func TestOfAndPublishShareNothing(t *testing.T) {
	p := publish.Publish{Props: prop.List{{ID: prop.User, S: "k", T: "v"}, {ID: prop.Expires, N: 9}}}
	m := Of(p, "a", "me", 0)
	p.Props[0].S, p.Props[1].N = "x", 1
	if m.Props[0].S != "k" || m.Props[1].N != 9 {
		t.Errorf("the message changed with its publish: %v", m.Props)
	}
	x := m.Publish(4)
	x.Props[0].S, x.Props[1].N = "y", 77
	if m.Props[0].S != "k" || m.Props[1].N != 9 || m.Publish(4).Props[1].N != 5 {
		t.Errorf("the message changed with what it answered: %v", m.Props)
	}
	x = m.Publish(4)
	m.Props[0].S, m.Props[1].N = "z", 2
	if x.Props[0].S != "k" || x.Props[1].N != 5 {
		t.Errorf("what was answered changed with the message: %v", x.Props)
	}
}

// P12.1: the chapter's example, the ticks ahead of, at and behind the end, and what has no end.
func TestLeft(t *testing.T) {
	for _, c := range []struct {
		name string
		m    Message
		now  int
		left int
		ends bool
		gone bool
	}{
		{"the example", Message{At: 10, Props: ends(5)}, 12, 3, true, false},
		{"at once", Message{At: 10, Props: ends(5)}, 10, 5, true, false},
		{"ahead of the end", Message{At: 10, Props: ends(5)}, 14, 1, true, false},
		{"at the end", Message{At: 10, Props: ends(5)}, 15, 0, true, true},
		{"behind the end", Message{At: 10, Props: ends(5)}, 16, -1, true, true},
		{"long behind the end", Message{At: 10, Props: ends(5)}, api.MaxTime, 15 - api.MaxTime, true, true},
		{"ahead of its own tick", Message{At: 10, Props: ends(5)}, 0, 15, true, false},
		{"for no tick", Message{At: 10, Props: ends(0)}, 10, 0, true, true},
		{"for no tick, ahead of it", Message{At: 10, Props: ends(0)}, 9, 1, true, false},
		{"no properties", Message{At: 10}, 12, 0, false, false},
		{"no properties, late", Message{}, api.MaxTime, 0, false, false},
		{"other properties", Message{Props: prop.List{{ID: prop.Format, N: 1}, {ID: prop.Content, S: "s"}, {ID: prop.WillDelay, N: 3}, {ID: prop.User}}}, 9, 0, false, false},
		{"behind other properties", Message{At: 1, Props: prop.List{{ID: prop.User, N: 2}, {ID: prop.Expires, N: 7}}}, 2, 6, true, false},
		{"several, the first one least", Message{Props: prop.List{{ID: prop.Expires, N: 3}, {ID: prop.Expires, N: 9}}}, 3, 0, true, true},
		{"several, the first one greatest", Message{Props: prop.List{{ID: prop.Expires, N: 9}, {ID: prop.User}, {ID: prop.Expires, N: 3}}}, 3, 6, true, false},
		{"the greatest number", Message{At: 1, Props: ends(api.Never)}, api.Never, 1, true, false},
		{"the greatest number, over", Message{At: 1, Props: ends(api.Never)}, api.Never + 1, 0, true, true},
		{"more than 2^32 - 1 are left", Message{At: 1 << 35, Props: ends(api.Never)}, 7, 1<<35 + api.Never - 7, true, false},
		{"late ticks", Message{At: api.MaxTime - 4, Props: ends(5)}, api.MaxTime, 1, true, false},
		{"late ticks, over", Message{At: api.MaxTime - 5, Props: ends(5)}, api.MaxTime, 0, true, true},
		{"the last tick, and the greatest number", Message{At: api.MaxTime, Props: ends(api.Never)}, 0, api.MaxTime + api.Never, true, false},
	} {
		if left, ok := c.m.Left(c.now); left != c.left || ok != c.ends {
			t.Errorf("%s: Left: %d, %v, not %d, %v", c.name, left, ok, c.left, c.ends)
		}
		if c.m.Gone(c.now) != c.gone {
			t.Errorf("%s: Gone: not %v", c.name, c.gone)
		}
	}
}

// P12.3: what is left falls by one with each tick; it is gone just when nothing is left, and stays so.
func TestLeftFalls(t *testing.T) {
	for _, at := range []int{0, 1, 10, math.MaxInt32, api.Never - 3, api.Never, api.Never + 1, api.MaxTime - 60} {
		for _, n := range []uint32{0, 1, 2, 30} {
			m := Message{At: at, Props: ends(n)}
			for step := range 60 {
				want := int(n) - step
				if left, ok := m.Left(at + step); left != want || !ok || m.Gone(at+step) != (want <= 0) {
					t.Fatalf("At %d, %d, behind %d ticks: %d, %v", at, n, step, left, m.Gone(at+step))
				}
				if said := m.Publish(at+step).Props.Num(prop.Expires, 99); said != uint32(max(want, 0)) {
					t.Fatalf("At %d, %d, behind %d ticks: %d is said", at, n, step, said)
				}
			}
		}
	}
}

// P12.1: the publish of a message: no Dup, no ID; what is left, from 0 to 2^32 - 1, is said by each property 2.
func TestPublish(t *testing.T) {
	user := prop.Prop{ID: prop.User, S: "k", T: "v"}
	for _, c := range []struct {
		name string
		m    Message
		now  int
		want publish.Publish
	}{
		{"nothing", Message{}, 0, publish.Publish{}},
		{"all", Message{From: "me", At: 10, QoS: 2, Retain: true, Props: prop.List{user, {ID: prop.Expires, N: 5}, user}, Topic: "a/b", Payload: "x"}, 12,
			publish.Publish{QoS: 2, Retain: true, Props: prop.List{user, {ID: prop.Expires, N: 3}, user}, Topic: "a/b", Payload: "x"}},
		{"no 2", Message{From: "me", At: 10, QoS: 1, Props: prop.List{user, user}, Topic: "a", Payload: "x"}, 99, publish.Publish{QoS: 1, Props: prop.List{user, user}, Topic: "a", Payload: "x"}},
		{"no payload", Message{At: 3, Retain: true, Topic: "a"}, 3, publish.Publish{Retain: true, Topic: "a"}},
		{"at once", Message{At: 10, Props: ends(5)}, 10, publish.Publish{Props: ends(5)}},
		{"ahead of the end", Message{At: 10, Props: ends(5)}, 14, publish.Publish{Props: ends(1)}},
		{"at the end", Message{At: 10, Props: ends(5)}, 15, publish.Publish{Props: ends(0)}},
		{"behind the end", Message{At: 10, Props: ends(5)}, 16, publish.Publish{Props: ends(0)}},
		{"long behind the end", Message{At: 10, Props: ends(5)}, api.MaxTime, publish.Publish{Props: ends(0)}},
		{"ahead of its own tick", Message{At: 10, Props: ends(5)}, 2, publish.Publish{Props: ends(13)}},
		{"2^32 - 1", Message{At: 10, Props: ends(api.Never)}, 10, publish.Publish{Props: ends(api.Never)}},
		{"2^32 - 1, ahead of its own tick", Message{At: 10, Props: ends(api.Never - 10)}, 0, publish.Publish{Props: ends(api.Never)}},
		{"one more", Message{At: 10, Props: ends(api.Never - 9)}, 0, publish.Publish{Props: ends(api.Never)}},
		{"far more", Message{At: api.MaxTime, Props: ends(api.Never)}, 0, publish.Publish{Props: ends(api.Never)}},
		{"twice 2^32", Message{At: 1 << 33, Props: ends(5)}, 0, publish.Publish{Props: ends(api.Never)}},
		{"2^32 behind the end", Message{At: 0, Props: ends(5)}, 1 << 32, publish.Publish{Props: ends(0)}},
		{"several 2", Message{At: 10, Props: prop.List{{ID: prop.Expires, N: 5}, user, {ID: prop.Expires, N: 9}, {ID: prop.Expires, N: 1}}}, 12,
			publish.Publish{Props: prop.List{{ID: prop.Expires, N: 3}, user, {ID: prop.Expires, N: 3}, {ID: prop.Expires, N: 3}}}},
		{"35 and 11 that came otherwise", Message{Props: prop.List{{ID: prop.Subscribed, N: 4}, {ID: prop.Alias, N: 3}}}, 1, publish.Publish{Props: prop.List{{ID: prop.Subscribed, N: 4}, {ID: prop.Alias, N: 3}}}},
		{"what may not be", Message{QoS: 77, Props: prop.List{{ID: -2, N: 4, S: "\xff"}}, Topic: "+/#\xff"}, 1, publish.Publish{QoS: 77, Props: prop.List{{ID: -2, N: 4, S: "\xff"}}, Topic: "+/#\xff"}},
	} {
		kept := slices.Clone(c.m.Props)
		if p := c.m.Publish(c.now); !samePublish(p, c.want) {
			t.Errorf("%s: %+v, not %+v", c.name, p, c.want)
		}
		if !slices.Equal(c.m.Props, kept) {
			t.Errorf("%s: the message has %v now", c.name, c.m.Props)
		}
	}
}

// P12.1: there and back: of a publish without 35 and 11, at its own tick, all comes back but Dup and ID.
func TestThereAndBack(t *testing.T) {
	rnd := rand.New(rand.NewSource(12))
	for range 2000 {
		p := publish.Publish{Dup: rnd.Intn(2) == 1, Retain: rnd.Intn(2) == 1, QoS: byte(rnd.Intn(3)), ID: rnd.Uint32(), Topic: "x", Payload: "y"}
		hidden := publish.Publish{Retain: p.Retain, QoS: p.QoS, Topic: "a", Payload: "y"}
		for range rnd.Intn(6) {
			one := prop.Prop{ID: []int{prop.Alias, prop.Subscribed, prop.User, prop.Content, prop.Format}[rnd.Intn(5)], N: rnd.Uint32()}
			p.Props = append(p.Props, one)
			if one.ID != prop.Alias && one.ID != prop.Subscribed {
				hidden.Props = append(hidden.Props, one)
			}
		}
		if rnd.Intn(2) == 1 {
			one := prop.Prop{ID: prop.Expires, N: rnd.Uint32()}
			p.Props, hidden.Props = append(p.Props, one), append(hidden.Props, one)
		}
		now := rnd.Intn(api.MaxTime)
		if got := Of(p, "a", "me", now).Publish(now); !samePublish(got, hidden) {
			t.Fatalf("%+v: %+v, not %+v", p, got, hidden)
		}
	}
}

// P1: ticks far outside of what may be: no call panics, and the same call is answered the same way.
func TestOddTicks(t *testing.T) {
	ticks := []int{math.MinInt, -1 << 40, -1, 0, 1, api.MaxTime, api.MaxTime + 1, math.MaxInt}
	for _, at := range ticks {
		for _, now := range ticks {
			for _, props := range []prop.List{nil, ends(0), ends(5), ends(api.Never)} {
				m := Of(publish.Publish{Props: props, Topic: "a", Payload: "x"}, "a", "me", at)
				left, ok := m.Left(now)
				again, ok2 := m.Left(now)
				if left != again || ok != ok2 || ok != (props != nil) || m.Gone(now) != m.Gone(now) || !samePublish(m.Publish(now), m.Publish(now)) {
					t.Errorf("At %d, now %d: %d, %v", at, now, left, ok)
				}
				s := New(1)
				if s.Set(m) != api.OK || len(s.Match("a", now)) == 1 == m.Gone(now) || s.Expire(now) == 0 == m.Gone(now) {
					t.Errorf("At %d, now %d: the store", at, now)
				}
			}
		}
	}
}
