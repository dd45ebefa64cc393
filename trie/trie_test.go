package trie

import (
	"cmp"
	"fmt"
	"math/rand"
	"reflect"
	"runtime"
	"slices"
	"strings"
	"testing"

	"switchboard/api"
	"switchboard/topic"
)

// at is what a value is kept for.
type at struct{ filter, key string }

// model is a trie by the chapter's words: a plain list of all that is kept.
type model map[at]int

// list: all of it that is asked for, by rising filters, then keys.
func (m model) list(is func(filter, key string) bool) []Hit[int] {
	var all []Hit[int]
	for k, v := range m {
		if is(k.filter, k.key) {
			all = append(all, Hit[int]{k.filter, k.key, v})
		}
	}
	slices.SortFunc(all, func(a, b Hit[int]) int {
		return cmp.Or(cmp.Compare(a.Filter, b.Filter), cmp.Compare(a.Key, b.Key))
	})
	return all
}

func (m model) match(name string) []Hit[int] {
	return m.list(func(filter, key string) bool { return topic.Match(filter, name) })
}

// check: does the trie answer what the model says, of these filters, keys and names?
func (m model) check(t *testing.T, x *Trie[int], filters, keys, names []string) {
	t.Helper()
	if x.Len() != len(m) {
		t.Fatalf("Len: %d, not %d", x.Len(), len(m))
	}
	for _, filter := range filters {
		for _, key := range keys {
			want, is := m[at{filter, key}]
			if v, ok := x.Get(filter, key); v != want || ok != is {
				t.Fatalf("Get(%q, %q): %d, %v, not %d, %v", filter, key, v, ok, want, is)
			}
		}
	}
	for _, name := range names {
		if got, want := x.Match(name), m.match(name); !slices.Equal(got, want) {
			t.Fatalf("Match(%q): %v, not %v", name, got, want)
		}
	}
	for _, key := range keys {
		if got, want := x.All(key), m.list(func(_, k string) bool { return k == key }); !slices.Equal(got, want) {
			t.Fatalf("All(%q): %v, not %v", key, got, want)
		}
		if got, want := x.Find(func(k string) bool { return k >= key }), m.list(func(_, k string) bool { return k >= key }); !slices.Equal(got, want) {
			t.Fatalf("Find from %q on: %v, not %v", key, got, want)
		}
	}
}

// same: are two tries one in all that they hold, unused nodes and maps too?
func same[V any](a, b *Trie[V]) bool {
	return reflect.DeepEqual(a, b)
}

func always(string) bool { return true }

// texts: all those of at most so many of these signs.
func texts(signs string, most int) []string {
	all := []string{""}
	for from, n := 0, 0; n < most; n++ {
		end := len(all)
		for _, s := range all[from:end] {
			for i := range len(signs) {
				all = append(all, s+signs[i:i+1])
			}
		}
		from = end
	}
	return all
}

func only(all []string, is func(string) bool) []string {
	return slices.DeleteFunc(all, func(s string) bool { return !is(s) })
}

// P11.1: a trie in which nothing is kept.
func TestNothing(t *testing.T) {
	x := New[int]()
	for range 2 {
		model{}.check(t, x, []string{"a", "#", "+/a", "/"}, []string{"", "k"}, []string{"a", "/", "$x", "a/b"})
		if x.Drop("a", "k") || x.Drop("#", "") || x.Len() != 0 {
			t.Error("Drop of what isn't there")
		}
	}
	if len(x.Find(always)) != 0 || !same(x, New[int]()) {
		t.Error("asking left something")
	}
	if New[int]() == New[int]() {
		t.Error("two tries are one")
	}
	y := New[int]()
	y.Put("a", "k", 1)
	model{}.check(t, x, []string{"a"}, []string{"k"}, []string{"a"})
}

// P11.1: the chapter's example.
func TestExample(t *testing.T) {
	x := New[int]()
	x.Put("a/+", "k", 1)
	x.Put("a/#", "k", 2)
	if got := x.Match("a/b"); !slices.Equal(got, []Hit[int]{{"a/#", "k", 2}, {"a/+", "k", 1}}) {
		t.Errorf("Match: %v", got)
	}
}

// P11.1: several keys of a filter, several filters of a key; what is put again, and what is dropped that isn't there.
func TestPutGetDrop(t *testing.T) {
	x, m := New[int](), model{}
	filters := []string{"a", "a/b", "a/b/c", "a/+", "a/#", "#", "+", "/", "$x", "b"}
	keys := []string{"", "k", "l", "a", "#", "\x00", "\xff", "k/l"}
	names := []string{"a", "a/b", "a/b/c", "b", "/", "$x", "c"}
	for i, filter := range filters {
		for j, key := range keys {
			if x.Put(filter, key, i*10+j) {
				t.Errorf("Put(%q, %q): nothing was there", filter, key)
			}
			m[at{filter, key}] = i*10 + j
		}
		m.check(t, x, filters, keys, names)
	}
	for _, filter := range filters {
		if !x.Put(filter, "k", 7) || !x.Put(filter, "k", 8) {
			t.Errorf("Put(%q) again: one was there", filter)
		}
		m[at{filter, "k"}] = 8
	}
	m.check(t, x, filters, keys, names)
	for _, filter := range []string{"a/c", "a/b/c/d", "a/", "/a", "c", "$", "A", "+/+", "b/#"} {
		if x.Drop(filter, "k") || x.Drop(filter, "") {
			t.Errorf("Drop(%q): nothing was there", filter)
		}
		if v, ok := x.Get(filter, "k"); v != 0 || ok {
			t.Errorf("Get(%q): %d, %v", filter, v, ok)
		}
	}
	if x.Drop("a", "K") || x.Drop("a/b", "kk") || x.Drop("#", " ") {
		t.Error("Drop of keys that aren't there")
	}
	m.check(t, x, filters, keys, names)
	for _, filter := range filters {
		if !x.Drop(filter, "k") || x.Drop(filter, "k") {
			t.Errorf("Drop(%q), twice", filter)
		}
		delete(m, at{filter, "k"})
		m.check(t, x, filters, keys, names)
	}
	if x.Put("a", "k", 0) || !x.Put("a", "k", 0) {
		t.Error("Put of what was dropped, and of a zero value")
	}
	if v, ok := x.Get("a", "k"); v != 0 || !ok {
		t.Error("Get of a zero value")
	}
}

// P11.1: filters that lie above and below each other are not one another's.
func TestAboveAndBelow(t *testing.T) {
	x := New[int]()
	x.Put("a/b/c", "k", 1)
	for _, filter := range []string{"a", "a/b", "a/b/c/", "a/b/c/d", "", "a/b/+", "a/#"} {
		if _, ok := x.Get(filter, "k"); ok || x.Drop(filter, "k") {
			t.Errorf("%q", filter)
		}
	}
	x.Put("a", "k", 2)
	if !x.Drop("a", "k") || x.Len() != 1 {
		t.Error("Drop above")
	}
	if v, ok := x.Get("a/b/c", "k"); v != 1 || !ok {
		t.Error("what lies below went with it")
	}
	x.Put("a", "k", 3)
	if !x.Drop("a/b/c", "k") {
		t.Error("Drop below")
	}
	if v, ok := x.Get("a", "k"); v != 3 || !ok {
		t.Error("what lies above went with it")
	}
}

// P11.1: rising, byte by byte of whole filters, then of keys.
func TestOrder(t *testing.T) {
	filters := []string{"\x01", " ", "!", "#", "$", "$x/#", "+", "+/#", "+/+", "+/a", "/", "//", "/a", "A", "a", "a!", "a!/b", "a\"/#", "a$", "a-b", "a.", "a/", "a/#", "a/+", "a/+/b", "a//", "a/b", "a/b/c", "a0", "aa", "b", "\u00e9", "\u20ac"}
	keys := []string{"", "\x00", "\x00a", " ", "!", "/", "A", "a", "a!", "a/", "aa", "b", "\u00e9", "\xff"}
	if !slices.IsSorted(filters) || !slices.IsSorted(keys) {
		t.Fatal("the test's own lists")
	}
	rnd := rand.New(rand.NewSource(1))
	for range 20 {
		x := New[int]()
		for _, i := range rnd.Perm(len(filters)) {
			for _, j := range rnd.Perm(len(keys)) {
				x.Put(filters[i], keys[j], 1)
			}
		}
		all := x.Find(always)
		if len(all) != len(filters)*len(keys) {
			t.Fatalf("Find: %d", len(all))
		}
		for i, hit := range all {
			if hit.Filter != filters[i/len(keys)] || hit.Key != keys[i%len(keys)] {
				t.Fatalf("Find: %q, %q is number %d", hit.Filter, hit.Key, i)
			}
		}
		for _, key := range keys {
			for i, hit := range x.All(key) {
				if hit.Filter != filters[i] || hit.Key != key {
					t.Fatalf("All(%q): %q is number %d", key, hit.Filter, i)
				}
			}
		}
		var want []at
		for _, filter := range []string{"#", "+/#", "+/+", "a/#", "a/+", "a/b"} {
			for _, key := range keys {
				want = append(want, at{filter, key})
			}
		}
		var got []at
		for _, hit := range x.Match("a/b") {
			got = append(got, at{hit.Filter, hit.Key})
		}
		if !slices.Equal(got, want) {
			t.Fatalf("Match: %q", got)
		}
	}
}

// P11.2: all short filters, kept at once, and all short names, empty levels and those that begin with a dollar sign too.
func TestMatchShort(t *testing.T) {
	filters, names := only(texts("a$/+#", 5), topic.Filter), only(texts("ab$/", 5), topic.Name)
	x, m := New[int](), model{}
	for i, filter := range filters {
		x.Put(filter, "k", i)
		m[at{filter, "k"}] = i
	}
	for _, name := range names {
		if got, want := x.Match(name), m.match(name); !slices.Equal(got, want) {
			t.Fatalf("Match(%q): %v, not %v", name, got, want)
		}
	}
}

// P11.2: each short filter by itself, so that none is found by what another one left or made.
func TestMatchAlone(t *testing.T) {
	filters, names := only(texts("a$/+#", 3), topic.Filter), only(texts("ab$/", 4), topic.Name)
	for _, filter := range filters {
		x := New[int]()
		x.Put(filter, "k", 1)
		for _, name := range names {
			got := x.Match(name)
			if met := topic.Match(filter, name); len(got) == 1 != met || len(got) > 1 {
				t.Fatalf("%q: Match(%q): %v", filter, name, got)
			}
		}
	}
}

// P11.2: names that begin with a dollar sign are met by no filter that begins with a sign, whatever is kept beside.
func TestHidden(t *testing.T) {
	x := New[int]()
	for i, filter := range []string{"#", "+", "+/#", "+/a", "+/+", "$x/#", "$x/+", "$x", "$x/a", "$/#", "a/#"} {
		x.Put(filter, "k", i)
	}
	for name, want := range map[string][]string{
		"$x":     {"$x", "$x/#"},
		"$x/a":   {"$x/#", "$x/+", "$x/a"},
		"$x/$x":  {"$x/#", "$x/+"},
		"$x/a/b": {"$x/#"},
		"$":      {"$/#"},
		"$/a":    {"$/#"},
		"$y/a":   nil,
		"a/$x":   {"#", "+/#", "+/+", "a/#"},
		"/$x":    {"#", "+/#", "+/+"},
	} {
		var got []string
		for _, hit := range x.Match(name) {
			got = append(got, hit.Filter)
		}
		if !slices.Equal(got, want) {
			t.Errorf("Match(%q): %q, not %q", name, got, want)
		}
	}
}

// P11.2: filters of each number of levels up to as many as may be, a + in each place, a # in each place.
func TestLevels(t *testing.T) {
	deep := make([]string, api.MaxLevels)
	for i := range deep {
		deep[i] = string(rune('a' + i%3))
	}
	x, m := New[int](), model{}
	put := func(levels ...string) {
		filter := strings.Join(levels, "/")
		if !topic.Filter(filter) {
			t.Fatalf("%q is no filter", filter)
		}
		x.Put(filter, "k", len(m))
		m[at{filter, "k"}] = len(m)
	}
	var names []string
	for n := 1; n <= api.MaxLevels; n++ {
		put(deep[:n]...)
		put(slices.Repeat([]string{"+"}, n)...)
		put(append(slices.Clone(deep[:n-1]), "#")...)
		put(append(slices.Repeat([]string{"+"}, n-1), "#")...)
		put(slices.Repeat([]string{""}, n+1)[:max(n, 2)]...)
		name := strings.Join(deep[:n], "/")
		names = append(names, name, name+"x", "x"+name, "$"+name, strings.Replace(name, "b", "", 1), strings.Repeat("/", n-1)+"a")
	}
	for i := range deep {
		more := slices.Clone(deep)
		more[i] = "+"
		put(more...)
	}
	for _, name := range names {
		got, want := x.Match(name), m.match(name)
		if !slices.Equal(got, want) {
			t.Fatalf("Match(%q): %v, not %v", name, got, want)
		}
	}
	if got := x.Match(strings.Join(deep, "/")); len(got) != 2+2*api.MaxLevels-1+api.MaxLevels {
		t.Errorf("the deepest name meets %d", len(got))
	}
}

// P11.1, P11.2, P11.3: any calls, and behind each of them the trie is what the model says.
func TestAnyCalls(t *testing.T) {
	filters := only(texts("a$/+#", 3), topic.Filter)
	names := only(texts("a$/", 4), topic.Name)
	keys := []string{"", "a", "b", "c/d"}
	for seed := range int64(60) {
		rnd := rand.New(rand.NewSource(seed))
		x, m := New[int](), model{}
		few := 1 + rnd.Intn(len(filters))
		for step := range 400 {
			k := at{filters[rnd.Intn(few)], keys[rnd.Intn(len(keys))]}
			_, was := m[k]
			if rnd.Intn(400) > step {
				if x.Put(k.filter, k.key, step) != was {
					t.Fatalf("Put(%q, %q): not %v", k.filter, k.key, was)
				}
				m[k] = step
			} else {
				if x.Drop(k.filter, k.key) != was {
					t.Fatalf("Drop(%q, %q): not %v", k.filter, k.key, was)
				}
				delete(m, k)
			}
			name := names[rnd.Intn(len(names))]
			if got, want := x.Match(name), m.match(name); x.Len() != len(m) || !slices.Equal(got, want) {
				t.Fatalf("%d, Match(%q): %v, not %v", x.Len(), name, got, want)
			}
		}
		m.check(t, x, filters, keys, names)
		if !same(x, m.made(rnd)) {
			t.Fatalf("seed %d: what was dropped left something", seed)
		}
	}
}

// made: a trie into which all of the model, and nothing else, was put, in any order.
func (m model) made(rnd *rand.Rand) *Trie[int] {
	x := New[int]()
	all := m.list(func(_, _ string) bool { return true })
	for _, i := range rnd.Perm(len(all)) {
		x.Put(all[i].Filter, all[i].Key, all[i].V)
	}
	return x
}

// P11.3: all dropped, in any order: nothing is left, not even a level.
func TestDropAll(t *testing.T) {
	filters := append(only(texts("a/+#", 4), topic.Filter), strings.Repeat("+/", api.MaxLevels-1)+"#", strings.Repeat("/", api.MaxLevels-1), "$share/g/a")
	keys := []string{"", "k", "l"}
	for seed := range int64(20) {
		rnd := rand.New(rand.NewSource(seed))
		x, m := New[int](), model{}
		for _, filter := range filters {
			for i, key := range keys {
				x.Put(filter, key, i)
				m[at{filter, key}] = i
			}
		}
		half := len(m) / 2
		all := x.Find(always)
		for i, n := range rnd.Perm(len(all)) {
			if !x.Drop(all[n].Filter, all[n].Key) {
				t.Fatalf("Drop(%q, %q)", all[n].Filter, all[n].Key)
			}
			delete(m, at{all[n].Filter, all[n].Key})
			if i == half && !same(x, m.made(rnd)) {
				t.Fatal("what was dropped left something beside the others")
			}
		}
		if !same(x, New[int]()) {
			t.Fatalf("what was dropped left something: %+v", x)
		}
	}
}

// P11.3: what has been dropped holds no memory by the levels that it shared with others.
func TestDroppedTextIsFree(t *testing.T) {
	x := New[int]()
	long := strings.Repeat("x", api.MaxText-10)
	for i := range 1000 {
		first := fmt.Sprint(i)
		x.Put(first+"/"+long, "k", 1)
		x.Put(first+"/a", "k", 1)
		x.Drop(first+"/"+long, "k")
	}
	runtime.GC()
	var use runtime.MemStats
	runtime.ReadMemStats(&use)
	if use.HeapAlloc > 30<<20 {
		t.Errorf("%d bytes are held", use.HeapAlloc)
	}
	if x.Len() != 1000 {
		t.Error("Len")
	}
}

// K3: what was found is the caller's own, both ways.
func TestFoundIsOwn(t *testing.T) {
	x := New[string]()
	x.Put("a", "k", "1")
	x.Put("a", "l", "2")
	x.Put("+", "k", "3")
	ask := map[string]func() []Hit[string]{
		"Match": func() []Hit[string] { return x.Match("a") },
		"Find":  func() []Hit[string] { return x.Find(always) },
		"All":   func() []Hit[string] { return x.All("k") },
	}
	for name, call := range ask {
		first := call()
		want := slices.Clone(first)
		for i := range first {
			first[i] = Hit[string]{"x", "y", "z"}
		}
		_ = append(first[:1], Hit[string]{"p", "q", "r"})
		if got := call(); !slices.Equal(got, want) {
			t.Errorf("%s: %v, behind a change of what was found", name, got)
		}
	}
	for name, call := range ask {
		first := call()
		want := slices.Clone(first)
		x.Put("a", "k", "4")
		x.Drop("+", "k")
		x.Put("#", "k", "5")
		if !slices.Equal(first, want) {
			t.Errorf("%s: %v, behind a change of the trie", name, first)
		}
		x.Put("a", "k", "1")
		x.Put("+", "k", "3")
		x.Drop("#", "k")
	}
}

// P11.1: keys that are asked for: none, some, all.
func TestFind(t *testing.T) {
	x := New[int]()
	for i, filter := range []string{"b", "a", "#", "a/+"} {
		x.Put(filter, "k", i)
		x.Put(filter, "kk", i+10)
	}
	x.Put("a", "", 20)
	if got := x.Find(func(string) bool { return false }); len(got) != 0 {
		t.Errorf("none: %v", got)
	}
	if got := x.Find(always); len(got) != 9 {
		t.Errorf("all: %v", got)
	}
	if got := x.Find(func(k string) bool { return len(k) == 2 }); !slices.Equal(got, x.All("kk")) || len(got) != 4 {
		t.Errorf("some: %v", got)
	}
	if got := x.Find(func(k string) bool { return k == "" }); !slices.Equal(got, []Hit[int]{{"a", "", 20}}) {
		t.Errorf("the empty key: %v", got)
	}
	if len(x.All("kkk")) != 0 || len(x.All("K")) != 0 {
		t.Error("All of keys that aren't there")
	}
}

// K4: a function that counts how often it is asked is answered in the same way each time.
func TestFindAsksInOrder(t *testing.T) {
	var first []Hit[int]
	var firstAsked []string
	for round := range 30 {
		x := New[int]()
		for i := range 100 {
			x.Put(fmt.Sprint("a/", i%10), fmt.Sprint(i), i)
		}
		var asked []string
		got := x.Find(func(key string) bool {
			asked = append(asked, key)
			return len(asked)%3 == 0
		})
		if round == 0 {
			first, firstAsked = got, asked
		}
		if !slices.Equal(got, first) || !slices.Equal(asked, firstAsked) {
			t.Fatalf("round %d: %v, asked %v", round, got, asked)
		}
	}
}

// P1: a function that changes the trie, or panics: the call ends, and doesn't panic.
func TestFindOfOddFunctions(t *testing.T) {
	x := New[int]()
	fill := func() {
		for i := range 50 {
			x.Put(fmt.Sprint(i), "k", i)
		}
	}
	fill()
	got := x.Find(func(key string) bool {
		for i := range 50 {
			x.Drop(fmt.Sprint(i), "k")
			x.Put(fmt.Sprint("new/", i), "k", i)
		}
		return true
	})
	if len(got) != 50 || x.Len() != 50 || strings.Contains(got[0].Filter, "new") {
		t.Errorf("a function that changes the trie: %d found, %d there", len(got), x.Len())
	}
	fill()
	x.Put("#", "bad", 1)
	x.Put("a", "good", 2)
	got = x.Find(func(key string) bool {
		if key == "bad" {
			panic("no")
		}
		return key == "good"
	})
	if !slices.Equal(got, []Hit[int]{{"a", "good", 2}}) || x.Len() != 102 {
		t.Errorf("a function that panics: %v", got)
	}
}

// P11.1: values of any type, such that can't be held against each other too.
func TestAnyValues(t *testing.T) {
	f := New[func() int]()
	f.Put("a", "k", func() int { return 7 })
	f.Put("a", "nil", nil)
	if got := f.Match("a"); len(got) != 2 || got[0].V() != 7 || got[1].V != nil {
		t.Error("functions")
	}
	if v, ok := f.Get("a", "nil"); v != nil || !ok || !f.Put("a", "nil", nil) || !f.Drop("a", "nil") {
		t.Error("a nil function")
	}
	if v, ok := f.Get("b", "k"); v != nil || ok {
		t.Error("no function")
	}
	l := New[[]string]()
	l.Put("+", "k", []string{"x"})
	if got := l.All("k"); len(got) != 1 || !slices.Equal(got[0].V, []string{"x"}) {
		t.Error("lists")
	}
	type pair struct {
		a string
		b map[string]int
	}
	p := New[pair]()
	p.Put("#", "k", pair{"x", map[string]int{"y": 1}})
	if got, ok := p.Get("#", "k"); !ok || got.a != "x" || got.b["y"] != 1 {
		t.Error("structs")
	}
	b, s, e := New[bool](), New[struct{}](), New[any]()
	if b.Put("a", "k", false) || !b.Put("a", "k", true) || s.Put("a", "k", struct{}{}) || s.Len() != 1 || e.Put("a", "k", nil) || !e.Put("a", "k", e) {
		t.Error("others")
	}
	if v, ok := b.Get("a", "k"); !v || !ok {
		t.Error("bools")
	}
	if v, ok := b.Get("a", "l"); v || ok {
		t.Error("no bool")
	}
}

// P1, P11.2: wrong inputs: texts that are no filters and no names. Nothing panics, each is kept by itself, and is found as layer 10's Match, which takes any texts, says.
func TestWrongTexts(t *testing.T) {
	wrong := texts("a$/+#", 4)
	x, m := New[int](), model{}
	for i, filter := range wrong {
		if x.Put(filter, "k", i) {
			t.Fatalf("Put(%q): one was there", filter)
		}
		m[at{filter, "k"}] = i
	}
	for _, name := range wrong {
		if got, want := x.Match(name), m.match(name); !slices.Equal(got, want) {
			t.Fatalf("Match(%q): %d, not %d", name, len(got), len(want))
		}
		if v, ok := x.Get(name, "k"); v != m[at{name, "k"}] || !ok {
			t.Fatalf("Get(%q): %d, %v", name, v, ok)
		}
	}
	for _, filter := range wrong {
		if !x.Drop(filter, "k") || x.Drop(filter, "k") {
			t.Fatalf("Drop(%q)", filter)
		}
	}
	if !same(x, New[int]()) {
		t.Error("something is left")
	}
}

// P1: texts of very many levels, and of any bytes.
func TestDeepTexts(t *testing.T) {
	x := New[int]()
	deep := strings.Repeat("a/", 100000)
	filters := []string{deep, deep + "#", strings.Repeat("+/", 100000), "\xff/\x00", "", strings.Repeat("x", 1<<20), deep + "#/" + deep}
	for i, filter := range filters {
		if x.Put(filter, deep, i) {
			t.Errorf("Put %d", i)
		}
	}
	if got := x.Match(deep); len(got) != 4 {
		t.Errorf("Match: %d", len(got))
	}
	if got := x.Match("\xff/\x00"); len(got) != 1 || got[0].V != 3 {
		t.Errorf("Match of any bytes: %d", len(got))
	}
	if len(x.All(deep)) != len(filters) || len(x.Find(always)) != len(filters) {
		t.Error("All, Find")
	}
	for i, filter := range filters {
		if !x.Drop(filter, deep) || x.Drop(filter, deep) {
			t.Errorf("Drop %d", i)
		}
	}
	if !same(x, New[int]()) {
		t.Error("something is left")
	}
}
