package frame_test

import (
	"bytes"
	"encoding/binary"
	"hash/crc32"
	"math"
	"slices"
	"strings"
	"testing"

	"tapearchive/api"
	"tapearchive/frame"
)

// sumOf follows the chapter's definition of the checksum of a frame literally.
func sumOf(length, body []byte) []byte {
	both := slices.Concat(length, body)
	return binary.BigEndian.AppendUint32(nil, crc32.Checksum(both, crc32.MakeTable(crc32.Castagnoli)))
}

// frameOf follows the chapter's definition of a frame literally.
func frameOf(body string) []byte {
	length := binary.BigEndian.AppendUint32(nil, uint32(len(body)))
	return slices.Concat([]byte{0xA7, 0x3C}, length, sumOf(length, []byte(body)), []byte(body))
}

// readNext follows P3.3 literally, sentence by sentence.
func readNext(b []byte, at int) ([]byte, int, api.Errno) {
	if at < 0 || at > len(b) {
		return nil, 0, api.ErrRange
	}
	f := b[at:]
	if len(f) < 10 {
		return nil, 0, api.ErrTruncated
	}
	if f[0] != 0xA7 || f[1] != 0x3C {
		return nil, 0, api.ErrSyntax
	}
	n := int64(binary.BigEndian.Uint32(f[2:]))
	if n > 65536 {
		return nil, 0, api.ErrTooLong
	}
	if int64(len(f)) < n+10 {
		return nil, 0, api.ErrTruncated
	}
	body := f[10 : 10+n]
	if !bytes.Equal(f[6:10], sumOf(f[2:6], body)) {
		return nil, 0, api.ErrChecksum
	}
	return body, at + 10 + int(n), api.OK
}

// readScan follows P3.4 literally.
func readScan(b []byte) ([][]byte, int) {
	var bodies [][]byte
	at := 0
	for {
		body, end, e := readNext(b, at)
		if e != api.OK {
			return bodies, at
		}
		bodies = append(bodies, body)
		at = end
	}
}

// readResync follows P3.5 literally.
func readResync(b []byte, at int) (int, bool) {
	for i := range len(b) {
		if _, _, e := readNext(b, i); i >= at && e == api.OK {
			return i, true
		}
	}
	return 0, false
}

// readSalvage follows P3.6 literally.
func readSalvage(b []byte) [][]byte {
	var bodies [][]byte
	at := 0
	for {
		if body, end, e := readNext(b, at); e == api.OK {
			bodies = append(bodies, body)
			at = end
		} else if next, ok := readResync(b, at); ok {
			at = next
		} else {
			return bodies
		}
	}
}

// longText returns n bytes of all kinds.
func longText(n int) string {
	return strings.Repeat("0123456789 \x80\x00\xff\xA7\x3Cz", n/17+1)[:n]
}

// bodies are of all kinds, also with magic bytes and whole frames inside them.
func bodies() []string {
	return []string{
		"", "a", "x", "\x00", "\xff", "ab\x00c", "\xA7\x3C", "\xA7\x3C\xA7\x3C\x00\x00\x00\x01", "\xA7", "\x3C\xA7",
		string(frameOf("inside")), "front" + string(frameOf("")) + "behind",
		longText(127), longText(255), longText(256), longText(1000),
	}
}

// greatBodies are those around the sizes whose length gets another byte, and the greatest ones.
func greatBodies() []string {
	return []string{longText(65279), longText(65280), longText(api.MaxRecord - 1), longText(api.MaxRecord)}
}

// with returns a copy of b that has the bytes given at at.
func with(b []byte, at int, given ...byte) []byte {
	b = slices.Clone(b)
	copy(b[at:], given)
	return b
}

func mustAppend(t *testing.T, b []byte, body string) []byte {
	t.Helper()
	got, e := frame.Append(b, []byte(body))
	if e != api.OK {
		t.Fatalf("a body of %d bytes: error %d", len(body), e)
	}
	return got
}

// equal compares lists of bodies; nil and empty ones are equal.
func equal(a, b [][]byte) bool {
	return slices.EqualFunc(a, b, bytes.Equal)
}

// checkNext compares Next with P3.3.
func checkNext(t *testing.T, b []byte, at int) {
	t.Helper()
	body, end, e := frame.Next(b, at)
	wantBody, wantEnd, wantE := readNext(b, at)
	if !bytes.Equal(body, wantBody) || end != wantEnd || e != wantE || e != api.OK && body != nil {
		t.Errorf("Next of %d bytes %.60x at %d: %.60x %d %d instead of %.60x %d %d", len(b), b, at, body, end, e, wantBody, wantEnd, wantE)
	}
}

// checkAll compares all functions that read with the promises, for b and all offsets.
func checkAll(t *testing.T, b []byte) {
	t.Helper()
	before := slices.Clone(b)
	for at := -2; at <= len(b)+2; at++ {
		checkNext(t, b, at)
		i, ok := frame.Resync(b, at)
		if want, wantOK := readResync(b, at); i != want || ok != wantOK {
			t.Errorf("Resync of %x at %d: %d %t instead of %d %t", b, at, i, ok, want, wantOK)
		}
	}
	scanned, end := frame.Scan(b)
	if want, wantEnd := readScan(b); !equal(scanned, want) || end != wantEnd {
		t.Errorf("Scan of %x: %q %d instead of %q %d", b, scanned, end, want, wantEnd)
	}
	saved := frame.Salvage(b)
	if want := readSalvage(b); !equal(saved, want) {
		t.Errorf("Salvage of %x: %q instead of %q", b, saved, want)
	}
	// P3.9
	if len(saved) < len(scanned) || !equal(saved[:len(scanned)], scanned) {
		t.Errorf("of %x: Scan %q is no beginning of Salvage %q", b, scanned, saved)
	}
	if !bytes.Equal(b, before) {
		t.Errorf("%x has become %x", before, b)
	}
}

// P3.1
func TestLen(t *testing.T) {
	for n, want := range map[int]int{
		math.MinInt: 0, -65546: 0, -10: 0, -1: 0, 0: 10, 1: 11, 10: 20, 255: 265,
		65535: 65545, 65536: 65546, 65537: 0, 1 << 32: 0, math.MaxInt - 10: 0, math.MaxInt: 0,
	} {
		if got := frame.Len(n); got != want {
			t.Errorf("Len of %d: %d instead of %d", n, got, want)
		}
	}
	for n := range api.MaxRecord + 1 {
		if got := frame.Len(n); got != n+10 {
			t.Fatalf("Len of %d: %d", n, got)
		}
	}
}

// P3.2
func TestAppendKnownFrames(t *testing.T) {
	for body, want := range map[string][]byte{
		"":   {0xA7, 0x3C, 0, 0, 0, 0, 0x48, 0x67, 0x4B, 0xC7},
		"a":  {0xA7, 0x3C, 0, 0, 0, 1, 0xC5, 0x7D, 0xFE, 0x23, 'a'},
		"ab": {0xA7, 0x3C, 0, 0, 0, 2, 0x0B, 0x86, 0x70, 0x63, 'a', 'b'},
	} {
		if got := mustAppend(t, nil, body); !bytes.Equal(got, want) {
			t.Errorf("%q: %x instead of %x", body, got, want)
		}
	}
}

// P3.2, P3.1
func TestAppendFollowsDefinition(t *testing.T) {
	fronts := []string{"", "\x00", "zz", "\xA7\x3C", string(frameOf("front")), longText(300), longText(70000)}
	for _, body := range slices.Concat(bodies(), greatBodies()) {
		for _, front := range fronts {
			got := mustAppend(t, []byte(front), body)
			if want := slices.Concat([]byte(front), frameOf(body)); !bytes.Equal(got, want) {
				t.Errorf("%d bytes behind %d: %.60x instead of %.60x", len(body), len(front), got, want)
			}
		}
		if got := mustAppend(t, nil, body); len(got) != frame.Len(len(body)) {
			t.Errorf("%d bytes: a frame of %d bytes, while Len is %d", len(body), len(got), frame.Len(len(body)))
		}
	}
	for _, n := range []int{api.MaxRecord + 1, api.MaxRecord + 10, 2 * api.MaxRecord, 1 << 18} {
		for _, front := range [][]byte{nil, []byte("front")} {
			if got, e := frame.Append(front, make([]byte, n)); e != api.ErrTooLong || got != nil {
				t.Errorf("%d bytes: %d bytes and error %d", n, len(got), e)
			}
		}
	}
}

// P3.2, and R3: nil and empty are equal, and the memory of the arguments stays as it is, also that behind their lengths.
func TestAppendSharesNoMemory(t *testing.T) {
	for _, front := range [][]byte{nil, {}} {
		for _, body := range [][]byte{nil, {}} {
			if got, e := frame.Append(front, body); e != api.OK || !bytes.Equal(got, frameOf("")) {
				t.Errorf("nothing behind nothing: %x %d", got, e)
			}
		}
	}
	memory := bytes.Repeat([]byte{77}, 100)
	for _, n := range []int{0, 1, 50, 90, 99, 100} {
		for _, m := range []int{0, 1, 100} {
			first, _ := frame.Append(memory[:n], memory[:m])
			second, _ := frame.Append(memory[:n], memory[:m])
			want := slices.Clone(first)
			for i := range second {
				second[i] = 99
			}
			_ = append(second, 98, 98, 98)
			if !bytes.Equal(memory, bytes.Repeat([]byte{77}, 100)) {
				t.Fatalf("%d bytes behind %d: the memory is now %v", m, n, memory)
			}
			if !bytes.Equal(first, want) {
				t.Errorf("%d bytes behind %d: two results share memory", m, n)
			}
		}
	}
}

// P3.3, the order of the errors, and examples 1 and 2
func TestNextErrors(t *testing.T) {
	a := frameOf("a")
	bad := with(a, 10, 'b')
	greatest := frameOf(longText(api.MaxRecord))
	for _, c := range []struct {
		name string
		b    []byte
		at   int
		want api.Errno
	}{
		{"negative at", a, -1, api.ErrRange},
		{"smallest at", a, math.MinInt, api.ErrRange},
		{"at behind the length", a, 12, api.ErrRange},
		{"greatest at", a, math.MaxInt, api.ErrRange},
		{"at -1 of nil", nil, -1, api.ErrRange},
		{"at 1 of nil", nil, 1, api.ErrRange},
		{"at 1 of empty", []byte{}, 1, api.ErrRange},
		{"nil", nil, 0, api.ErrTruncated},
		{"empty", []byte{}, 0, api.ErrTruncated},
		{"at the length", a, 11, api.ErrTruncated},
		{"ten bytes follow, no magic", a, 1, api.ErrSyntax},
		{"nine bytes follow, no magic", a, 2, api.ErrTruncated},
		{"nine bytes without magic", make([]byte, 9), 0, api.ErrTruncated},
		{"ten bytes without magic", make([]byte, 10), 0, api.ErrSyntax},
		{"nine bytes of a frame", a[:9], 0, api.ErrTruncated},
		{"ten bytes of a frame", a[:10], 0, api.ErrTruncated},
		{"example 2, at 0", a[:len(a)-1], 0, api.ErrTruncated},
		{"example 2, at 1", a[:len(a)-1], 1, api.ErrTruncated},
		{"first magic byte", with(a, 0, 0xA6), 0, api.ErrSyntax},
		{"second magic byte", with(a, 1, 0x3D), 0, api.ErrSyntax},
		{"magic bytes exchanged", with(a, 0, 0x3C, 0xA7), 0, api.ErrSyntax},
		{"no magic, too long, checksum", with(a, 0, 0, 0, 255), 0, api.ErrSyntax},
		{"no magic, truncated, checksum", with(a, 0, 0, 0x3C, 0, 0, 0, 9), 0, api.ErrSyntax},
		{"no magic, checksum", with(bad, 1, 0), 0, api.ErrSyntax},
		{"too long by one, truncated", with(a, 2, 0, 1, 0, 1), 0, api.ErrTooLong},
		{"too long by one, complete, checksum", append(with(greatest, 2, 0, 1, 0, 1), 0), 0, api.ErrTooLong},
		{"too long, second byte", with(a, 2, 0, 2, 0, 0), 0, api.ErrTooLong},
		{"too long, first byte 1", with(a, 2, 1), 0, api.ErrTooLong},
		{"too long, first byte 127", with(a, 2, 127, 255, 255, 255), 0, api.ErrTooLong},
		{"too long, first byte 128", with(a, 2, 128, 0, 0, 1), 0, api.ErrTooLong},
		{"too long, first byte 255", with(a, 2, 255, 255, 255, 255), 0, api.ErrTooLong},
		{"too long, ten bytes", with(a, 2, 0, 1, 0, 1)[:10], 0, api.ErrTooLong},
		{"too long, nine bytes", with(a, 2, 0, 1, 0, 1)[:9], 0, api.ErrTruncated},
		{"the greatest length, truncated", with(a, 2, 0, 1, 0, 0), 0, api.ErrTruncated},
		{"the greatest frame without its last byte", greatest[:len(greatest)-1], 0, api.ErrTruncated},
		{"longer by one, truncated, checksum", with(a, 2, 0, 0, 0, 2), 0, api.ErrTruncated},
		{"longer by one, complete", append(with(a, 2, 0, 0, 0, 2), 0), 0, api.ErrChecksum},
		{"shorter by one", with(a, 2, 0, 0, 0, 0), 0, api.ErrChecksum},
		{"body", bad, 0, api.ErrChecksum},
		{"body without its last byte, checksum", with(frameOf("ab"), 10, 'b')[:11], 0, api.ErrTruncated},
		{"checksum of the body alone", append([]byte{0xA7, 0x3C, 0, 0, 0, 1}, append(sumOf(nil, []byte("a")), 'a')...), 0, api.ErrChecksum},
		{"checksum 0", with(a, 6, 0, 0, 0, 0), 0, api.ErrChecksum},
		{"example 1", a, 0, api.OK},
		{"the greatest frame", greatest, 0, api.OK},
		{"empty body", frameOf(""), 0, api.OK},
	} {
		if _, _, e := frame.Next(c.b, c.at); e != c.want {
			t.Errorf("%s: error %d instead of %d", c.name, e, c.want)
		}
		checkNext(t, c.b, c.at)
	}
}

// P3.3
func TestNextFindsFrames(t *testing.T) {
	for _, text := range slices.Concat(bodies(), greatBodies()) {
		for _, front := range []string{"", "\xA7", "front", string(frameOf("front"))} {
			for _, behind := range []string{"", "\x00", "\xA7\x3C", string(frameOf("behind")), longText(200)} {
				b := []byte(front + string(frameOf(text)) + behind)
				want := len(front) + len(text) + 10
				if body, end, e := frame.Next(b, len(front)); string(body) != text || end != want || e != api.OK {
					t.Errorf("%d bytes between %q and %.20q: %d bytes, %d %d", len(text), front, behind, len(body), end, e)
				}
			}
		}
	}
}

// P3.3: each part of a frame is missing, too much or changed, at each place.
func TestNextFollowsDefinition(t *testing.T) {
	for _, text := range []string{"", "a", "\xA7\x3C\x00", string(frameOf("x"))} {
		f := frameOf(text)
		for n := range len(f) + 1 {
			checkNext(t, f[:n], 0)
			checkNext(t, append([]byte("zz"), f[:n]...), 2)
		}
		for i := range f {
			for x := range 256 {
				checkNext(t, with(f, i, byte(x)), 0)
				checkNext(t, append(with(f, i, byte(x)), "behind"...), 0)
			}
		}
	}
}

// P3.8
func TestChangedByte(t *testing.T) {
	for _, text := range bodies() {
		b := append(frameOf(text), longText(20)...)
		for i := 6; i < frame.Len(len(text)); i++ {
			for x := range 255 {
				changed := with(b, i, b[i]^byte(x+1))
				if body, end, e := frame.Next(changed, 0); e != api.ErrChecksum || body != nil || end != 0 {
					t.Fatalf("a frame of %q with byte %d changed to %d: %q %d %d", text, i, changed[i], body, end, e)
				}
			}
		}
	}
	great := frameOf(longText(api.MaxRecord))
	for _, i := range []int{6, 9, 10, 11, 40000, 65544, 65545} {
		if _, _, e := frame.Next(with(great, i, great[i]^64), 0); e != api.ErrChecksum {
			t.Errorf("the greatest frame with byte %d changed: error %d", i, e)
		}
	}
}

// pieces are frames, and bytes at which none begins.
func pieces() [][]byte {
	a := frameOf("a")
	outer := frameOf("<" + string(frameOf("in")) + ">")
	return [][]byte{
		// The last byte of the second one, followed by a[1:], would be a frame that overlaps it.
		a, frameOf("\xA7"), frameOf(""), frameOf("\xA7\x3C"), outer,
		[]byte("abc"), {0xA7}, {0xA7, 0x3C}, a[:10], a[1:], with(a, 2, 128), with(outer, 10, '?'),
		{0xA7, 0x3C, 0, 0, 0, 30, 1, 2, 3, 4},
	}
}

// eachJoin calls visit with all sequences of at most most pieces.
func eachJoin(most int, visit func(b []byte)) {
	list := [][]byte{nil}
	for range most + 1 {
		var longer [][]byte
		for _, b := range list {
			visit(b)
			for _, p := range pieces() {
				longer = append(longer, slices.Concat(b, p))
			}
		}
		list = longer
	}
}

// P3.3, P3.4, P3.5, P3.6, P3.9
func TestReadingFollowsDefinitions(t *testing.T) {
	eachJoin(3, func(b []byte) { checkAll(t, b) })
}

// P3.4
func TestScan(t *testing.T) {
	x, y := string(frameOf("x")), string(frameOf("yy"))
	for _, c := range []struct {
		b    string
		want []string
		end  int
	}{
		{"", nil, 0}, {"abc", nil, 0}, {x, []string{"x"}, 11}, {x + y, []string{"x", "yy"}, 23}, {x + x, []string{"x", "x"}, 22},
		{x + "abc" + y, []string{"x"}, 11}, {"abc" + x, nil, 0}, {x + y[:11], []string{"x"}, 11}, {x + y + "\xA7", []string{"x", "yy"}, 23},
		{string(frameOf(x)) + y, []string{x, "yy"}, 33},
	} {
		got, end := frame.Scan([]byte(c.b))
		if !equal(got, ofStrings(c.want)) || end != c.end {
			t.Errorf("%q: %q %d instead of %q %d", c.b, got, end, c.want, c.end)
		}
	}
	if got, end := frame.Scan(nil); len(got) != 0 || end != 0 {
		t.Errorf("nil: %q %d", got, end)
	}
}

// ofStrings returns the bytes of each string.
func ofStrings(list []string) [][]byte {
	var all [][]byte
	for _, s := range list {
		all = append(all, []byte(s))
	}
	return all
}

// P3.5: frames begin at 3, at 19 and, inside the latter, at 29.
func TestResync(t *testing.T) {
	inner := string(frameOf("y"))
	b := []byte("abc" + string(frameOf("x")) + "defgh" + string(frameOf(inner)) + "ijk")
	for _, c := range []struct {
		at, want int
		ok       bool
	}{
		{math.MinInt, 3, true}, {-5, 3, true}, {-1, 3, true}, {0, 3, true}, {2, 3, true}, {3, 3, true}, {4, 19, true}, {14, 19, true},
		{18, 19, true}, {19, 19, true}, {20, 29, true}, {29, 29, true}, {30, 0, false}, {len(b) - 1, 0, false},
		{len(b), 0, false}, {len(b) + 1, 0, false}, {math.MaxInt, 0, false},
	} {
		if got, ok := frame.Resync(b, c.at); got != c.want || ok != c.ok {
			t.Errorf("at %d: %d %t instead of %d %t", c.at, got, ok, c.want, c.ok)
		}
	}
	for _, none := range [][]byte{nil, {}, []byte("abc"), frameOf("x")[:10], with(frameOf("x"), 10, 'y')} {
		for _, at := range []int{-1, 0, 1, 100} {
			if got, ok := frame.Resync(none, at); got != 0 || ok {
				t.Errorf("%x at %d: %d %t", none, at, got, ok)
			}
		}
	}
	last := append([]byte("abc"), frameOf("")...)
	if got, ok := frame.Resync(last, 0); got != 3 || !ok {
		t.Errorf("a frame of ten bytes at the end: %d %t", got, ok)
	}
}

// P3.6, and example 3
func TestSalvage(t *testing.T) {
	x, y := string(frameOf("x")), string(frameOf("yy"))
	outer := string(frameOf("<" + y + ">"))
	damaged := "\xA7\x3C\x00" + outer[3:10] + "?" + outer[11:]
	for _, c := range []struct {
		b    string
		want []string
	}{
		{"", nil}, {"abc", nil}, {"abc" + x + "def", []string{"x"}}, {x, []string{"x"}},
		{x + y, []string{"x", "yy"}}, {x + "abc" + y, []string{"x", "yy"}}, {"abc" + x + "abc" + y + x + "abc", []string{"x", "yy", "x"}},
		{x[:10] + y, []string{"yy"}}, {"\xA7\x3C" + x, []string{"x"}}, {"\xA7" + x, []string{"x"}}, {x + y[:11], []string{"x"}},
		{outer, []string{"<" + y + ">"}}, {damaged, []string{"yy"}}, {damaged + x, []string{"yy", "x"}},
		{outer + x, []string{"<" + y + ">", "x"}}, {string(frameOf("")) + "a" + string(frameOf("")), []string{"", ""}},
		{"\xA7\x3C\x00\x00\x00\x50\x01\x02\x03\x04" + x + y, []string{"x", "yy"}},
		{"\xA7\x3C\xFF\x00\x00\x50\x01\x02\x03\x04" + x + y, []string{"x", "yy"}},
		{string(frameOf("z\xA7")) + x[1:], []string{"z\xA7"}}, {string(frameOf("z"+x[:4])) + x[4:] + y, []string{"z" + x[:4], "yy"}},
	} {
		if got := frame.Salvage([]byte(c.b)); !equal(got, ofStrings(c.want)) {
			t.Errorf("%q: %q instead of %q", c.b, got, c.want)
		}
	}
	if got := frame.Salvage(nil); len(got) != 0 {
		t.Errorf("nil: %q", got)
	}
}

// P3.7
func TestScanOfPart(t *testing.T) {
	var all []byte
	ends := []int{0}
	for _, body := range bodies() {
		all = mustAppend(t, all, body)
		ends = append(ends, len(all))
	}
	whole := ofStrings(bodies())
	if got, end := frame.Scan(all); !equal(got, whole) || end != len(all) {
		t.Errorf("all frames: %d bodies, %d", len(got), end)
	}
	for n := range len(all) {
		there := 0
		for ends[there+1] <= n {
			there++
		}
		got, end := frame.Scan(all[:n])
		if !equal(got, whole[:there]) || end != ends[there] {
			t.Fatalf("the first %d bytes: %d bodies, %d instead of %d, %d", n, len(got), end, there, ends[there])
		}
	}
}

// P3.9: one byte of some frames is changed, at each place.
func TestDamageAtEachPlace(t *testing.T) {
	all := slices.Concat(frameOf("one"), frameOf(""), frameOf(string(frameOf("two"))), frameOf("three"))
	for i := range all {
		for _, x := range []byte{1, 128, 255} {
			checkAll(t, with(all, i, all[i]^x))
		}
	}
}

// R3: the bodies share no memory with the argument or with each other.
func TestBodiesShareNoMemory(t *testing.T) {
	for name, read := range map[string]func(b []byte) [][]byte{
		"Next": func(b []byte) [][]byte {
			first, at, _ := frame.Next(b, 0)
			second, at, _ := frame.Next(b, at)
			third, _, _ := frame.Next(b, at)
			return [][]byte{first, second, third}
		},
		"Scan":    func(b []byte) [][]byte { list, _ := frame.Scan(b); return list },
		"Salvage": frame.Salvage,
	} {
		b := slices.Concat(frameOf("one"), frameOf(""), frameOf("three"))
		before := slices.Clone(b)
		first, second := read(b), read(b)
		for i, body := range first {
			for j := range body {
				body[j] = 99
			}
			_ = append(body, 98)
			first[i] = append(body[:0], 97)
		}
		if !bytes.Equal(b, before) {
			t.Errorf("%s: %x has become %x", name, before, b)
		}
		clear(b)
		if !equal(second, ofStrings([]string{"one", "", "three"})) {
			t.Errorf("%s: the bodies are now %q", name, second)
		}
	}
}

// R1: bytes that are all magic bytes, or that all begin long frames, come to an end, too.
func TestManyMagicBytes(t *testing.T) {
	for _, piece := range []string{"\xA7\x3C", "\xA7\x3C\x00\x00", "\xA7\x3C\x00\x00\x40\x00"} {
		b := bytes.Repeat([]byte(piece), 5000)
		if got := frame.Salvage(b); len(got) != 0 {
			t.Errorf("%x: %d bodies", piece, len(got))
		}
		if _, ok := frame.Resync(b, 0); ok {
			t.Errorf("%x: a frame", piece)
		}
	}
}
