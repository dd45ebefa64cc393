package topic

import (
	"math/rand"
	"slices"
	"strings"
	"testing"

	"switchboard/api"
	"switchboard/word"
)

// notStrings: what no string of a packet is.
var notStrings = []string{"\xff", "a\x00", "\x00", "\xc0\x80", "\xed\xa0\x80", "\xf4\x90\x80\x80", "ab\xe2\x82", "a/\xff/b", "a/\x00", strings.Repeat("x", api.MaxText+1)}

// levels: a text of so many empty levels.
func levels(n int) string {
	return strings.Repeat("/", n-1)
}

// P10.1: one level more than there are slashes, empty ones too.
func TestLevels(t *testing.T) {
	for _, c := range []struct {
		s    string
		want []string
	}{
		{"", []string{""}},
		{"a", []string{"a"}},
		{"/", []string{"", ""}},
		{"//", []string{"", "", ""}},
		{"a/", []string{"a", ""}},
		{"/a", []string{"", "a"}},
		{"a/b", []string{"a", "b"}},
		{"a//b", []string{"a", "", "b"}},
		{"+/#", []string{"+", "#"}},
		{"$share/g/a", []string{"$share", "g", "a"}},
		{"\xff/\x00", []string{"\xff", "\x00"}},
		{"a\\b c", []string{"a\\b c"}},
		{"\u2215/\u00e9", []string{"\u2215", "\u00e9"}},
	} {
		if got := Levels(c.s); !slices.Equal(got, c.want) {
			t.Errorf("Levels(%q): %q", c.s, got)
		}
	}
	for n := 1; n < 100; n++ {
		if got := Levels(levels(n)); len(got) != n {
			t.Errorf("%d levels: %d", n, len(got))
		}
	}
	// K3: each answer is the caller's own.
	mine := Levels("a/b")
	mine[0] = "x"
	if got := Levels("a/b"); got[0] != "a" {
		t.Error("an answer is shared")
	}
}

// P10.1: names, and what is none.
func TestName(t *testing.T) {
	long := strings.Repeat("x", api.MaxText)
	for _, s := range []string{
		"a", "/", "//", "a/", "/a", "a//b", "a b", " ", "$", "$SYS/x", "$share/g/a", "\u00e9/\u20ac", "\ufffd", "\u0001", "*", "-",
		long, levels(api.MaxLevels), strings.Repeat("ab/", api.MaxLevels-1) + "c",
	} {
		if !Name(s) {
			t.Errorf("Name(%.40q)", s)
		}
		if !Filter(s) {
			t.Errorf("Filter(%.40q): what may be a name may be a filter", s)
		}
	}
	for _, s := range slices.Concat(notStrings, []string{
		"", "+", "#", "a/+", "+/a", "a/#", "#/a", "a+", "+a", "a#", "#a", "a/b+c/d", "a/b#c/d", "++", "##", "$+",
		levels(api.MaxLevels + 1), "a" + levels(api.MaxLevels+1), strings.Repeat("x", api.MaxText) + "y", levels(api.MaxText),
	}) {
		if Name(s) {
			t.Errorf("Name(%.40q)", s)
		}
	}
}

// P10.1: filters, and what is none: signs in each place.
func TestFilter(t *testing.T) {
	for _, s := range []string{
		"a", "+", "#", "/", "//", "a/", "/+", "+/", "+/+", "+/+/+", "a/+", "+/a", "a/+/b", "a/#", "+/#", "/#", "//#", "a/b/#", "a/+/#", "$x/#", "$SYS/+", "$share", "$share/g", "$share/g/a", "$share/+/#",
		strings.Repeat("x", api.MaxText), levels(api.MaxLevels), strings.Repeat("+/", api.MaxLevels-1) + "#",
	} {
		if !Filter(s) {
			t.Errorf("Filter(%.40q)", s)
		}
	}
	for _, s := range slices.Concat(notStrings, []string{
		"", "a+", "+a", "++", "a/b+", "a/+b", "a/+b/c", "+a/b", "a+/b", "#/", "#/a", "#/#", "a/#/", "a/#/b", "a/#/#", "a#", "#a", "##", "a/b#", "a/#b", "+#", "#+", "a/+#", "a/#+", "/#/",
		levels(api.MaxLevels + 1), levels(api.MaxLevels+1) + "#", strings.Repeat("+/", api.MaxLevels) + "#", strings.Repeat("+/", api.MaxLevels) + "+",
	}) {
		if Filter(s) {
			t.Errorf("Filter(%.40q)", s)
		}
	}
}

// P10.1: shared filters of each form, and others.
func TestSplit(t *testing.T) {
	group, all := strings.Repeat("g", api.MaxText), strings.Repeat("x", api.MaxText)
	deep := strings.Repeat("+/", api.MaxLevels-1) + "#"
	for _, c := range []struct {
		s, group, filter string
		ok               bool
	}{
		{"$share/g/a", "g", "a", true},
		{"$share/g/+", "g", "+", true},
		{"$share/g/#", "g", "#", true},
		{"$share/g//", "g", "/", true},
		{"$share/g//a", "g", "/a", true},
		{"$share/g/a/+/#", "g", "a/+/#", true},
		{"$share/$/$SYS/#", "$", "$SYS/#", true},
		{"$share/\u00e9/\u20ac", "\u00e9", "\u20ac", true},
		{"$share/$share/$share/g/a", "$share", "$share/g/a", true},
		{"$share/g/" + deep, "g", deep, true},
		{"$share/" + group + "/" + all, group, all, true},

		{"$share/", "", "", false},
		{"$share//", "", "", false},
		{"$share//a", "", "", false},
		{"$share/g", "", "", false},
		{"$share/g/", "", "", false},
		{"$share/+/a", "", "", false},
		{"$share/#/a", "", "", false},
		{"$share/g+/a", "", "", false},
		{"$share/g#/a", "", "", false},
		{"$share/+g/a", "", "", false},
		{"$share/#", "", "", false},
		{"$share/+", "", "", false},
		{"$share/g/a+", "", "", false},
		{"$share/g/#/a", "", "", false},
		{"$share/g/a/#/b", "", "", false},
		{"$share/\xff/a", "", "", false},
		{"$share/g\x00/a", "", "", false},
		{"$share/g/\xff", "", "", false},
		{"$share/g/a\x00", "", "", false},
		{"$share/g/+/" + deep, "", "", false},
		{"$share/" + group + "g/a", "", "", false},
		{"$share/g/" + all + "x", "", "", false},

		{"a", "", "a", true},
		{"a/#", "", "a/#", true},
		{"#", "", "#", true},
		{"$share", "", "$share", true},
		{"$shared/a", "", "$shared/a", true},
		{"$SHARE/g/a", "", "$SHARE/g/a", true},
		{"/$share/g/a", "", "/$share/g/a", true},
		{" $share/g/a", "", " $share/g/a", true},
		{"$shar", "", "$shar", true},
		{"", "", "", false},
		{"a#", "", "a#", false},
		{"#/a", "", "#/a", false},
		{"$share+", "", "$share+", false},
		{"a\xff", "", "a\xff", false},
		{all + "x", "", all + "x", false},
	} {
		if g, f, ok := Split(c.s); g != c.group || f != c.filter || ok != c.ok {
			t.Errorf("Split(%.40q): %.40q, %.40q, %v", c.s, g, f, ok)
		}
	}
}

// P10.1: names that begin with a dollar sign.
func TestHidden(t *testing.T) {
	for s, want := range map[string]bool{
		"$": true, "$x": true, "$SYS/a": true, "$/": true, "$share/g/a": true, "$$": true, "$\xff": true,
		"": false, "a": false, "a$": false, "/$": false, "a/$x": false, " $": false, "+": false, "#": false, "\uff04": false,
	} {
		if Hidden(s) != want {
			t.Errorf("Hidden(%q)", s)
		}
	}
}

// P10.1: the chapter's example, each sign in each place, empty levels, names that begin with a dollar sign.
func TestMatch(t *testing.T) {
	for _, c := range []struct {
		filter  string
		met, no []string
	}{
		{"a/+", []string{"a/b", "a/", "a/$x"}, []string{"a", "a/b/c", "b/a", "/a", "a/b/", "ab", ""}},
		{"a/#", []string{"a", "a/b", "a/b/c", "a/", "a//"}, []string{"ab", "b", "/a", "", "A/b", "b/a"}},
		{"#", []string{"a", "/", "a/b", "", "/$x", "a/$x"}, []string{"$x", "$", "$x/a", "$SYS"}},
		{"$x/#", []string{"$x", "$x/", "$x/a/b"}, []string{"x", "$", "$xa", "x/a", "a/$x"}},
		{"$x/+", []string{"$x/a", "$x/"}, []string{"$x", "$x/a/b"}},
		{"+", []string{"a", "", "+", "#"}, []string{"/", "a/b", "a/", "/a", "$x", "$"}},
		{"+/a", []string{"b/a", "/a", "a/a"}, []string{"$x/a", "$/a", "a", "a/b"}},
		{"+/+", []string{"/", "a/b", "/a", "a/", "a/$x"}, []string{"a", "a/b/c", "$x/a", ""}},
		{"+/#", []string{"a", "a/b", "/", "", "a/b/c"}, []string{"$x", "$x/a"}},
		{"/+", []string{"/a", "/", "/$x"}, []string{"a", "a/b", "//"}},
		{"/#", []string{"/", "/a", "", "//"}, []string{"a", "a/", "$x"}},
		{"a/+/c", []string{"a/b/c", "a//c"}, []string{"a/c", "a/b/d", "a/b/c/d", "b/b/c", "a/b"}},
		{"a/+/#", []string{"a/b", "a/b/c", "a/"}, []string{"a", "b/b", ""}},
		{"+/+/#", []string{"a/b", "a/b/c"}, []string{"a", "$x/b"}},
		{"a", []string{"a"}, []string{"a/", "/a", "A", "aa", "", "a/b", "+", "#", "a "}},
		{"a/b", []string{"a/b"}, []string{"a", "a/b/", "a/b/c", "a/c", "b/b", "a//b"}},
		{"a//b", []string{"a//b"}, []string{"a/b", "a/x/b", "a/"}},
		{"/", []string{"/"}, []string{"", "a/", "/a", "//"}},
		{"$x", []string{"$x"}, []string{"$", "$x/", "x"}},
		{"", []string{""}, []string{"a", "/", "$"}},
	} {
		for _, name := range c.met {
			if !Match(c.filter, name) {
				t.Errorf("Match(%q, %q): not met", c.filter, name)
			}
		}
		for _, name := range c.no {
			if Match(c.filter, name) {
				t.Errorf("Match(%q, %q): met", c.filter, name)
			}
		}
	}
}

// P10.1: of any texts, by what is said: signs within a level stand for themselves, a # for all further levels, and there may be any number of them.
func TestMatchOfAny(t *testing.T) {
	deep := strings.Repeat("a/", 5000)
	for _, c := range []struct {
		filter, name string
		want         bool
	}{
		{"a+", "a+", true},
		{"a+", "ab", false},
		{"a#", "a#", true},
		{"a#", "a", false},
		{"a#", "a/b", false},
		{"+a", "$a", false},
		{"+a", "+a", true},
		{"a/#/b", "a/#/b", true},
		{"a/#/b", "a/x", true},
		{"#/a", "b", true},
		{"#/a", "$x", false},
		{"$+", "$+", true},
		{"\xff/+", "\xff/\x00", true},
		{"\xff", "\xfe", false},
		{deep + "b", deep + "b", true},
		{deep + "b", deep + "c", false},
		{deep + "#", deep, true},
		{"#", deep, true},
		{deep, "a", false},
		{"a", deep, false},
	} {
		if Match(c.filter, c.name) != c.want {
			t.Errorf("Match(%.20q, %.20q): not %v", c.filter, c.name, c.want)
		}
	}
}

// meets: the chapter's words of levels, the first against the first and the others by themselves.
func meets(filter, name []string) bool {
	if len(filter) > 0 && filter[0] == "#" {
		return true
	}
	if len(filter) == 0 || len(name) == 0 {
		return len(filter) == len(name)
	}
	return (filter[0] == "+" || filter[0] == name[0]) && meets(filter[1:], name[1:])
}

// texts: all those of at most so many of these signs.
func texts(signs string, most int) []string {
	all := []string{""}
	for from, n := 0, 0; n < most; n++ {
		end := len(all)
		for _, s := range all[from:end] {
			for i := range len(signs) {
				all = append(all, s+signs[i:i+1])
			}
		}
		from = end
	}
	return all
}

// P10.1: all short texts against each other.
func TestMatchShort(t *testing.T) {
	all := texts("a$/+#", 4)
	for _, filter := range all {
		for _, name := range all {
			want := meets(strings.Split(filter, "/"), strings.Split(name, "/"))
			if name != "" && name[0] == '$' && (filter == "+" || filter == "#" || strings.HasPrefix(filter, "+/") || strings.HasPrefix(filter, "#/")) {
				want = false
			}
			if Match(filter, name) != want {
				t.Fatalf("Match(%q, %q): not %v", filter, name, want)
			}
		}
	}
}

// isFilter: the chapter's words, level by level.
func isFilter(s string) bool {
	l := strings.Split(s, "/")
	for i, level := range l {
		neither := strings.IndexByte(level, '+') < 0 && strings.IndexByte(level, '#') < 0
		if !neither && level != "+" && (level != "#" || i < len(l)-1) {
			return false
		}
	}
	return s != ""
}

// P10.1: which of all short texts may be names, filters and shared filters.
func TestMayBeShort(t *testing.T) {
	for _, s := range texts("a$/+#", 6) {
		if want := isFilter(s); Filter(s) != want {
			t.Fatalf("Filter(%q): not %v", s, want)
		}
		if want := s != "" && strings.IndexByte(s, '+') < 0 && strings.IndexByte(s, '#') < 0; Name(s) != want {
			t.Fatalf("Name(%q): not %v", s, want)
		}
		if g, f, ok := Split(s); g != "" || f != s || ok != isFilter(s) {
			t.Fatalf("Split(%q): %q, %q, %v", s, g, f, ok)
		}
		group, filter, _ := strings.Cut(s, "/")
		want := Name(group) && isFilter(filter)
		if !want {
			group, filter = "", ""
		}
		if g, f, ok := Split("$share/" + s); g != group || f != filter || ok != want {
			t.Fatalf("Split($share/%q): %q, %q, %v", s, g, f, ok)
		}
	}
}

// P10.2: a filter without + and # is met by itself alone.
func TestItselfAlone(t *testing.T) {
	names := texts("ab$/", 4)
	for _, filter := range names {
		for _, name := range names {
			if Match(filter, name) != (filter == name) {
				t.Fatalf("Match(%q, %q)", filter, name)
			}
		}
	}
}

// wider: the filters that have one + more than this one, or a # for what is at its end.
func wider(filter string) []string {
	l := strings.Split(filter, "/")
	var all []string
	for i := range l {
		if l[i] != "#" {
			more := slices.Clone(l)
			more[i] = "+"
			all = append(all, strings.Join(more, "/"))
		}
		all = append(all, strings.Join(append(slices.Clone(l[:i]), "#"), "/"))
	}
	if l[len(l)-1] != "#" {
		all = append(all, filter+"/#")
	}
	return all
}

// P10.2: one with more + or # is met by no less; but a sign at its beginning is met by no name that begins with a $.
func TestNoLess(t *testing.T) {
	names := texts("a$/", 4)
	for _, filter := range texts("a$/+#", 4) {
		if !isFilter(filter) {
			continue
		}
		for _, more := range wider(filter) {
			for _, name := range names {
				first, _, _ := strings.Cut(more, "/")
				if Hidden(name) && (first == "+" || first == "#") {
					continue
				}
				if Match(filter, name) && !Match(more, name) {
					t.Fatalf("%q is met by %q, and %q isn't", filter, name, more)
				}
			}
		}
	}
}

// P1, P2: any bytes: no call panics, and the same call is answered the same way.
func TestAnyBytes(t *testing.T) {
	rnd := rand.New(rand.NewSource(10))
	text := func() string {
		b := make([]byte, rnd.Intn(80))
		for i := range b {
			b[i] = "a/+#$\xff\x00/\xc3\xa9b"[rnd.Intn(11)]
		}
		return []string{"", "$share/", "$share/g/"}[rnd.Intn(3)] + string(b)
	}
	for range 50000 {
		s, name := text(), text()
		if l := Levels(s); strings.Join(l, "/") != s || len(l) != strings.Count(s, "/")+1 {
			t.Fatalf("Levels(%q): %q", s, l)
		}
		if Name(s) && (!Filter(s) || !word.Good(s)) || Filter(s) && !word.Good(s) {
			t.Fatalf("Name(%q), Filter", s)
		}
		g, f, ok := Split(s)
		if g2, f2, ok2 := Split(s); g != g2 || f != f2 || ok != ok2 {
			t.Fatalf("Split(%q): the same call is answered otherwise", s)
		}
		if ok && !Filter(f) || ok && g != "" && s != "$share/"+g+"/"+f {
			t.Fatalf("Split(%q): %q, %q", s, g, f)
		}
		if Match(s, name) != Match(s, name) {
			t.Fatalf("Match(%q, %q): the same call is answered otherwise", s, name)
		}
	}
}
