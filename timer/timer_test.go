package timer

import (
	"cmp"
	"iter"
	"math"
	"math/rand"
	"slices"
	"strconv"
	"strings"
	"testing"
)

// model is timers by the chapter's words: a plain list that is always in their order.
type model struct{ list []Entry }

func (m *model) stop(key string) bool {
	ahead := len(m.list)
	m.list = slices.DeleteFunc(m.list, func(e Entry) bool { return e.Key == key })
	return len(m.list) < ahead
}

func (m *model) set(key string, at int) {
	m.stop(key)
	m.list = append(m.list, Entry{key, at})
	slices.SortFunc(m.list, func(a, b Entry) int {
		return cmp.Or(cmp.Compare(a.At, b.At), strings.Compare(a.Key, b.Key))
	})
}

func (m *model) get(key string) (int, bool) {
	for _, e := range m.list {
		if e.Key == key {
			return e.At, true
		}
	}
	return 0, false
}

func (m *model) next() (Entry, bool) {
	if len(m.list) == 0 {
		return Entry{}, false
	}
	return m.list[0], true
}

func (m *model) due(now int) []Entry {
	n := 0
	for n < len(m.list) && m.list[n].At <= now {
		n++
	}
	due := slices.Clone(m.list[:n])
	m.list = slices.Clone(m.list[n:])
	return due
}

// told: all that a sequence tells.
func told(all iter.Seq2[string, int]) []Entry {
	var l []Entry
	for key, at := range all {
		l = append(l, Entry{key, at})
	}
	return l
}

// of: timers that are set in this order.
func of(l ...Entry) *Timers {
	x := New()
	for _, e := range l {
		x.Set(e.Key, e.At)
	}
	return x
}

// holds: just these are due, in this order, whichever call tells it.
func holds(t *testing.T, x *Timers, want ...Entry) {
	t.Helper()
	if got := told(x.All()); !slices.Equal(got, want) || x.Len() != len(want) {
		t.Fatalf("All: %v, Len: %d, not %v", got, x.Len(), want)
	}
	first, has := x.Next()
	if has != (len(want) > 0) || has && first != want[0] || !has && first != (Entry{}) {
		t.Fatalf("Next: %v, %v, of %v", first, has, want)
	}
	for _, e := range want {
		if at, ok := x.Get(e.Key); at != e.At || !ok {
			t.Fatalf("Get(%q): %d, %v, not %d", e.Key, at, ok, e.At)
		}
	}
}

// none: a key isn't due.
func none(t *testing.T, x *Timers, keys ...string) {
	t.Helper()
	for _, key := range keys {
		if at, ok := x.Get(key); at != 0 || ok {
			t.Fatalf("Get(%q): %d, %v", key, at, ok)
		}
	}
}

func due(t *testing.T, x *Timers, now int, want ...Entry) {
	t.Helper()
	if got := x.Due(now); !slices.Equal(got, want) {
		t.Fatalf("Due(%d): %v, not %v", now, got, want)
	}
	for _, e := range want {
		none(t, x, e.Key)
	}
}

func stop(t *testing.T, x *Timers, key string, want bool) {
	t.Helper()
	if was := x.Stop(key); was != want {
		t.Fatalf("Stop(%q): %v, not %v", key, was, want)
	}
	none(t, x, key)
}

// P18.1: the chapter's example.
func TestExample(t *testing.T) {
	x := of(Entry{"b", 5}, Entry{"a", 5}, Entry{"c", 3})
	due(t, x, 5, Entry{"c", 3}, Entry{"a", 5}, Entry{"b", 5})
	holds(t, x)
}

// P18.1: none; two of them are two.
func TestNone(t *testing.T) {
	x, other := New(), New()
	for range 2 {
		holds(t, x)
		none(t, x, "", "a", "\x00")
		stop(t, x, "", false)
		stop(t, x, "a", false)
		for _, now := range []int{math.MinInt, -1, 0, 1, math.MaxInt} {
			due(t, x, now)
		}
	}
	x.Set("a", 1)
	holds(t, x, Entry{"a", 1})
	holds(t, other)
	other.Set("a", 2)
	stop(t, x, "a", true)
	holds(t, other, Entry{"a", 2})
}

// keys are any texts, rising byte by byte.
func keys() []string {
	return []string{"", "\x00", "\x00\x00", "\x00a", " ", "/", "10", "9", "A", "B", "a", "a\x00", "a/", "aa", "ab", "b", "end/a", "keep/1", "keep/10", "keep/2", "will/a", "é", "\U0001F600", "\xff", "\xff\x00", "\xff\xff" + strings.Repeat("x", 70000)}
}

// P18.1: keys that are empty, and keys of any bytes, at one tick: rising, however they were set.
func TestKeys(t *testing.T) {
	var want []Entry
	for _, key := range keys() {
		want = append(want, Entry{key, 7})
	}
	for seed := range int64(20) {
		mixed := slices.Clone(want)
		rand.New(rand.NewSource(seed)).Shuffle(len(mixed), func(i, j int) { mixed[i], mixed[j] = mixed[j], mixed[i] })
		x := of(mixed...)
		holds(t, x, want...)
		none(t, x, "c", "keep/", "\x00\x00\x00", "a\x00\x00")
		due(t, x, 6)
		holds(t, x, want...)
		due(t, x, 7, want...)
		holds(t, x)
		x = of(mixed...)
		for i, key := range keys() {
			holds(t, x, want[i:]...)
			stop(t, x, key, true)
			stop(t, x, key, false)
		}
		holds(t, x)
	}
}

// P18.1: the empty key is one like the others, at tick 0 too.
func TestEmptyKey(t *testing.T) {
	x := New()
	x.Set("", 0)
	holds(t, x, Entry{"", 0})
	none(t, x, "a")
	x.Set("a", 0)
	x.Set("", 1)
	holds(t, x, Entry{"a", 0}, Entry{"", 1})
	due(t, x, 0, Entry{"a", 0})
	stop(t, x, "", true)
	stop(t, x, "", false)
	x.Set("", -1)
	due(t, x, 0, Entry{"", -1})
	holds(t, x)
}

// P18.1: the earlier first, whatever the keys are; ticks below 0, the least and the greatest.
func TestTicks(t *testing.T) {
	want := []Entry{{"z", math.MinInt}, {"y", math.MinInt + 1}, {"x", -1 << 40}, {"w", -1 << 32}, {"v", -2}, {"u", -1}, {"t", 0}, {"s", 1}, {"r", 9}, {"q", 10}, {"p", 1 << 31}, {"o", 1 << 32}, {"n", 1 << 40}, {"m", 1<<40 + 1}, {"l", math.MaxInt - 1}, {"k", math.MaxInt}}
	rising := slices.Clone(want)
	slices.SortFunc(rising, func(a, b Entry) int { return strings.Compare(a.Key, b.Key) })
	for _, l := range [][]Entry{want, rising} {
		holds(t, of(l...), want...)
		for i, e := range want {
			x := of(l...)
			due(t, x, e.At, want[:i+1]...)
			holds(t, x, want[i+1:]...)
		}
		x := of(l...)
		for _, e := range want {
			if e.At > math.MinInt {
				due(t, x, e.At-1)
			}
			due(t, x, e.At, e)
			due(t, x, e.At)
		}
		holds(t, x)
	}
}

// P18.1: one tick at the edge: due up to it, not ahead of it.
func TestEdge(t *testing.T) {
	for _, at := range []int{math.MinInt, -7, -1, 0, 1, 12, 1 << 40, math.MaxInt} {
		if at > math.MinInt {
			x := of(Entry{"a", at})
			due(t, x, at-1)
			due(t, x, math.MinInt)
			holds(t, x, Entry{"a", at})
		}
		due(t, of(Entry{"a", at}), at, Entry{"a", at})
		due(t, of(Entry{"a", at}), math.MaxInt, Entry{"a", at})
	}
}

// P18.1: a key that is set again is due at the last tick alone, be it earlier, the same or later.
func TestSetAgain(t *testing.T) {
	x := of(Entry{"a", 10}, Entry{"b", 10}, Entry{"c", 10})
	holds(t, x, Entry{"a", 10}, Entry{"b", 10}, Entry{"c", 10})
	x.Set("b", 10)
	holds(t, x, Entry{"a", 10}, Entry{"b", 10}, Entry{"c", 10})
	x.Set("b", 5)
	holds(t, x, Entry{"b", 5}, Entry{"a", 10}, Entry{"c", 10})
	x.Set("b", 15)
	holds(t, x, Entry{"a", 10}, Entry{"c", 10}, Entry{"b", 15})
	due(t, x, 5)
	due(t, x, 14, Entry{"a", 10}, Entry{"c", 10})
	x.Set("b", 20)
	due(t, x, 19)
	x.Set("b", -3)
	due(t, x, -4)
	due(t, x, -3, Entry{"b", -3})
	due(t, x, math.MaxInt)
	x.Set("b", math.MinInt)
	x.Set("b", math.MaxInt)
	due(t, x, math.MaxInt-1)
	due(t, x, math.MaxInt, Entry{"b", math.MaxInt})
	holds(t, x)
}

// P18.1, P18.2: Stop of a key that is due, that was due, and that never was, once and twice.
func TestStop(t *testing.T) {
	x := of(Entry{"a", 1}, Entry{"b", 2}, Entry{"c", 3})
	stop(t, x, "d", false)
	stop(t, x, "d", false)
	holds(t, x, Entry{"a", 1}, Entry{"b", 2}, Entry{"c", 3})
	stop(t, x, "b", true)
	stop(t, x, "b", false)
	holds(t, x, Entry{"a", 1}, Entry{"c", 3})
	due(t, x, 2, Entry{"a", 1})
	stop(t, x, "a", false)
	stop(t, x, "a", false)
	x.Set("a", 2)
	x.Set("a", 4)
	stop(t, x, "a", true)
	stop(t, x, "a", false)
	x.Set("b", 3)
	holds(t, x, Entry{"b", 3}, Entry{"c", 3})
	due(t, x, 3, Entry{"b", 3}, Entry{"c", 3})
	holds(t, x)
}

// P18.2: Due of none, some and all, once and twice: what it told isn't told again.
func TestDueOnce(t *testing.T) {
	x := of(Entry{"d", 4}, Entry{"c", 4}, Entry{"b", 8}, Entry{"a", 9})
	for range 2 {
		due(t, x, 3)
		holds(t, x, Entry{"c", 4}, Entry{"d", 4}, Entry{"b", 8}, Entry{"a", 9})
	}
	due(t, x, 7, Entry{"c", 4}, Entry{"d", 4})
	for range 2 {
		due(t, x, 7)
		due(t, x, 4)
		holds(t, x, Entry{"b", 8}, Entry{"a", 9})
	}
	due(t, x, math.MaxInt, Entry{"b", 8}, Entry{"a", 9})
	for range 2 {
		due(t, x, math.MaxInt)
		holds(t, x)
	}
	// One that is set again is told again, at a tick that went by, too.
	x.Set("c", 4)
	due(t, x, 7, Entry{"c", 4})
	due(t, x, 7)
}

// P18.1: Next tells the first one, and leaves it there.
func TestNext(t *testing.T) {
	x := of(Entry{"b", 2}, Entry{"a", 2}, Entry{"z", 1})
	for _, want := range []Entry{{"z", 1}, {"a", 2}, {"b", 2}} {
		for range 3 {
			if e, ok := x.Next(); e != want || !ok {
				t.Fatalf("Next: %v, %v, not %v", e, ok, want)
			}
		}
		stop(t, x, want.Key, true)
	}
	if e, ok := x.Next(); e != (Entry{}) || ok {
		t.Errorf("Next: %v, %v", e, ok)
	}
	x.Set("", 0)
	if e, ok := x.Next(); e != (Entry{}) || !ok {
		t.Errorf("Next: %v, %v, of the empty key at 0", e, ok)
	}
}

// P18.1: All that is left early tells no more, and changes nothing; it may be told again, from its start.
func TestAllLeftEarly(t *testing.T) {
	want := []Entry{{"c", 1}, {"a", 2}, {"b", 2}, {"d", 3}}
	x := of(want...)
	all := x.All()
	for n := range want {
		var got []Entry
		for key, at := range all {
			got = append(got, Entry{key, at})
			if len(got) > n {
				break
			}
		}
		if !slices.Equal(got, want[:n+1]) {
			t.Errorf("left behind %d: %v", n+1, got)
		}
		calls := 0
		all(func(string, int) bool {
			calls++
			return calls <= n
		})
		if calls != n+1 {
			t.Errorf("told %d times, when %d said no", calls, n+1)
		}
		if got := told(all); !slices.Equal(got, want) {
			t.Errorf("told again: %v", got)
		}
		holds(t, x, want...)
	}
}

// P18.1: All tells what was due when it was called, whatever is set, stopped or told due ahead of its telling.
func TestAllAsItWas(t *testing.T) {
	want := []Entry{{"a", 1}, {"b", 2}, {"c", 3}, {"d", 4}}
	for i, change := range []func(x *Timers){
		func(x *Timers) { x.Set("0", 0) },
		func(x *Timers) { x.Set("a", 9) },
		func(x *Timers) { x.Set("d", -9) },
		func(x *Timers) { x.Stop("b") },
		func(x *Timers) { x.Due(2) },
		func(x *Timers) { x.Due(math.MaxInt) },
		func(x *Timers) { x.Due(9); x.Set("a", 5); x.Set("z", 5) },
	} {
		x := of(want...)
		all := x.All()
		change(x)
		if got := told(all); !slices.Equal(got, want) {
			t.Errorf("%d: %v", i, got)
		}
		change(x)
		if got := told(all); !slices.Equal(got, want) {
			t.Errorf("%d, twice: %v", i, got)
		}
		x = of(want...)
		var got []Entry
		for key, at := range x.All() {
			change(x)
			got = append(got, Entry{key, at})
		}
		if !slices.Equal(got, want) {
			t.Errorf("%d, as it was told: %v", i, got)
		}
	}
	x := New()
	all := x.All()
	x.Set("a", 1)
	if got := told(all); len(got) != 0 {
		t.Errorf("of none: %v", got)
	}
}

// P18.1: each telling may stop, set and ask what it is told of.
func TestWithinAll(t *testing.T) {
	x := of(Entry{"a", 1}, Entry{"b", 2}, Entry{"c", 3})
	for key, at := range x.All() {
		for inner := range x.All() {
			if inner != key {
				t.Errorf("%q ahead of %q", inner, key)
			}
			break
		}
		stop(t, x, key, true)
		if at == 2 {
			x.Set(key, 12)
		}
	}
	holds(t, x, Entry{"b", 12})
}

// K3: what Due answered is changed behind that, and what is called behind it doesn't change it.
func TestOwn(t *testing.T) {
	x := of(Entry{"a", 1}, Entry{"b", 2}, Entry{"c", 3}, Entry{"d", 4})
	all := x.All()
	first := x.Due(2)
	kept := slices.Clone(first)
	x.Set("a", 9)
	x.Set("e", 0)
	second := x.Due(0)
	if !slices.Equal(first, kept) {
		t.Errorf("the answer changed: %v", first)
	}
	first[0] = Entry{"z", -1}
	_ = append(first[:1], Entry{"y", -2}, Entry{"x", -3})
	second[0].Key = "w"
	holds(t, x, Entry{"c", 3}, Entry{"d", 4}, Entry{"a", 9})
	if got := told(all); !slices.Equal(got, []Entry{{"a", 1}, {"b", 2}, {"c", 3}, {"d", 4}}) {
		t.Errorf("All changed with the answer of Due: %v", got)
	}
}

// P18.1, P18.2: many at few ticks, told once each, in their order.
func TestMany(t *testing.T) {
	x, m := New(), 5000
	for i := range m {
		x.Set("k"+strconv.Itoa((i*7919)%m), i%17)
	}
	if x.Len() != m {
		t.Errorf("Len: %d", x.Len())
	}
	seen := map[string]bool{}
	last := Entry{At: -1}
	for now := range 17 {
		for _, e := range x.Due(now) {
			if e.At != now || seen[e.Key] || last.At == now && last.Key >= e.Key {
				t.Fatalf("Due(%d): %v behind %v", now, e, last)
			}
			seen[e.Key], last = true, e
		}
	}
	if len(seen) != m {
		t.Errorf("told: %d", len(seen))
	}
	holds(t, x)
}

// P18.1, P18.2: any calls, and each is answered as the model says, and the same way of two of them (K4).
func TestAnyCalls(t *testing.T) {
	names := keys()[:16]
	ticks := []int{math.MinInt, -5, -1, 0, 1, 2, 3, 4, 1 << 40, math.MaxInt}
	for seed := range int64(300) {
		rnd := rand.New(rand.NewSource(seed))
		x, twin, m := New(), New(), &model{}
		all, was := x.All(), []Entry(nil)
		for step := range 200 {
			key, at := names[rnd.Intn(len(names))], ticks[rnd.Intn(len(ticks))]
			switch call := rnd.Intn(20); {
			case call < 11:
				x.Set(key, at)
				twin.Set(key, at)
				m.set(key, at)
			case call < 15:
				was, twins := x.Stop(key), twin.Stop(key)
				if want := m.stop(key); was != want || twins != want {
					t.Fatalf("seed %d, step %d: Stop: %v", seed, step, was)
				}
			case call < 17:
				l, k := x.Due(at), twin.Due(at)
				if want := m.due(at); !slices.Equal(l, want) || !slices.Equal(k, want) {
					t.Fatalf("seed %d, step %d: Due(%d): %v, not %v", seed, step, at, l, want)
				}
			default:
				if got := told(all); !slices.Equal(got, was) {
					t.Fatalf("seed %d, step %d: All: %v, not %v", seed, step, got, was)
				}
				all, was = x.All(), slices.Clone(m.list)
			}
			if got := told(x.All()); !slices.Equal(got, m.list) || !slices.Equal(told(twin.All()), m.list) || x.Len() != len(m.list) {
				t.Fatalf("seed %d, step %d: All: %v, not %v", seed, step, got, m.list)
			}
			e, ok := x.Next()
			if want, has := m.next(); e != want || ok != has {
				t.Fatalf("seed %d, step %d: Next: %v, not %v", seed, step, e, want)
			}
			for _, key := range names {
				at, ok := x.Get(key)
				if want, has := m.get(key); at != want || ok != has {
					t.Fatalf("seed %d, step %d: Get(%q): %d, not %d", seed, step, key, at, want)
				}
			}
		}
	}
}
