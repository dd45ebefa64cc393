package reason

import (
	"math"
	"slices"
	"strconv"
	"strings"
	"testing"

	"switchboard/api"
)

// table: the document's, in its own words; the kinds of each row share it.
var table = []struct {
	kinds []int
	codes string
}{
	{[]int{api.Connack}, "00 80 to 8a, 8c 90 95 97 99 9a 9b 9c 9d 9f"},
	{[]int{api.Puback, api.Pubrec}, "00 10 80 83 87 90 91 97 99"},
	{[]int{api.Pubrel, api.Pubcomp}, "00 92"},
	{[]int{api.Suback}, "00 01 02 80 83 87 8f 91 97 9e a1 a2"},
	{[]int{api.Unsuback}, "00 11 80 83 87 8f 91"},
	{[]int{api.Disconnect}, "00 04 80 81 82 83 87 89 8b 8d 8e 8f 90 93 to 9f, a0 a1 a2"},
	{[]int{api.Auth}, "00 18 19"},
}

// listed: the codes that a row's words say.
func listed(t *testing.T, words string) []byte {
	var codes []byte
	upTo := false
	for _, word := range strings.Fields(strings.ReplaceAll(words, ",", "")) {
		if word == "to" {
			upTo = true
			continue
		}
		n, err := strconv.ParseUint(word, 16, 8)
		if err != nil {
			t.Fatal(err)
		}
		for upTo && codes[len(codes)-1]+1 < byte(n) {
			codes = append(codes, codes[len(codes)-1]+1)
		}
		codes, upTo = append(codes, byte(n)), false
	}
	return codes
}

// rows: the codes of each kind that has some.
func rows(t *testing.T) map[int][]byte {
	all := map[int][]byte{}
	for _, c := range table {
		for _, kind := range c.kinds {
			all[kind] = listed(t, c.codes)
		}
	}
	if len(all) != 9 || len(all[api.Connack]) != 22 || len(all[api.Disconnect]) != 29 {
		t.Fatalf("the table was read as %x", all)
	}
	return all
}

// kinds: all packets' kinds, and what is none.
func kinds() []int {
	list := []int{math.MinInt, -1 << 32, math.MaxInt, 1 << 32, 1<<32 + api.Connack, 256 + api.Auth}
	for kind := -20; kind <= 300; kind++ {
		list = append(list, kind)
	}
	return list
}

// P4.1
func TestConstants(t *testing.T) {
	got := []int{Success, WithWill, NoMatch, NoSuch, Unspecified, Malformed, Protocol, Version, BadMethod, Timeout, TakenOver, BadFilter, BadName, InUse, NotFound, Quota, BadAlias, TooBig}
	want := []int{0x00, 0x04, 0x10, 0x11, 0x80, 0x81, 0x82, 0x84, 0x8c, 0x8d, 0x8e, 0x8f, 0x90, 0x91, 0x92, 0x93, 0x94, 0x95}
	if !slices.Equal(got, want) {
		t.Errorf("the constants: %x", got)
	}
}

// P4.1
func TestMay(t *testing.T) {
	all := rows(t)
	for _, kind := range kinds() {
		for code := range 256 {
			if ok := May(kind, byte(code)); ok != slices.Contains(all[kind], byte(code)) {
				t.Errorf("May(%d, %02x): %v", kind, code, ok)
			}
		}
	}
	if !May(api.Puback, 0x10) || May(api.Pubrel, 0x10) {
		t.Error("the document's example")
	}
}

// P4.1
func TestCodes(t *testing.T) {
	all := rows(t)
	for _, kind := range kinds() {
		if codes := Codes(kind); !slices.Equal(codes, all[kind]) || !slices.IsSorted(codes) {
			t.Errorf("Codes(%d): %x, not %x", kind, codes, all[kind])
		}
	}
}

// P4.1, P2: what is answered is the caller's own.
func TestCodesAreNew(t *testing.T) {
	for kind, want := range rows(t) {
		codes := Codes(kind)
		for i := range codes {
			codes[i] = 0xff
		}
		if again := Codes(kind); !slices.Equal(again, want) || !May(kind, Success) || May(kind, 0xff) {
			t.Errorf("Codes(%d) behind a change: %x", kind, again)
		}
	}
}

// P4.1
func TestGood(t *testing.T) {
	for code := range 256 {
		if ok := Good(byte(code)); ok != (code < 128) {
			t.Errorf("Good(%02x): %v", code, ok)
		}
	}
}

// P4.1
func TestOf(t *testing.T) {
	told := map[api.Errno]byte{
		api.OK: 0x00, api.ErrEnd: 0x81, api.ErrForm: 0x81, api.ErrProto: 0x82, api.ErrBig: 0x95, api.ErrName: 0x90,
		api.ErrFilter: 0x8f, api.ErrAlias: 0x94, api.ErrQuota: 0x93, api.ErrVersion: 0x84,
	}
	for _, e := range errnos() {
		want, ok := told[e]
		if !ok {
			want = 0x80
		}
		if code := Of(e); code != want {
			t.Errorf("Of(%d): %02x, not %02x", e, code, want)
		}
	}
}

// P4.2
func TestOfMayBeSaid(t *testing.T) {
	for _, e := range errnos() {
		code := Of(e)
		if !May(api.Disconnect, code) && !May(api.Connack, code) {
			t.Errorf("Of(%d): %02x, which neither may say", e, code)
		}
		if Good(code) != (e == api.OK) {
			t.Errorf("Of(%d): %02x, which is Good: %v", e, code, Good(code))
		}
	}
}

// errnos: all errors, and what is none.
func errnos() []api.Errno {
	list := []api.Errno{math.MinInt, math.MaxInt, 1 << 32, 1<<32 + api.ErrForm, 1<<8 + api.ErrForm}
	for e := api.Errno(-300); e <= 300; e++ {
		list = append(list, e)
	}
	return list
}
