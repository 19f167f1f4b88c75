package stripe_test

import (
	"fmt"
	"math/big"
	"reflect"
	"slices"
	"strings"
	"testing"

	"tapearchive/api"
	"tapearchive/container"
	"tapearchive/stripe"
)

// What the functions must return, computed sentence by sentence from the chapters 4, 5, 6 and 17. Of the layers below, only container.Valid is called: the chapter says by it which headers are valid.

// random is a sequence of numbers that is the same in each run.
type random uint64

// below returns the next number, from 0 to n - 1.
func (r *random) below(n int) int {
	*r = *r*6364136223846793005 + 1442695040888963407
	x := uint64(*r)
	return int((x ^ x>>33) * 0xFF51AFD7ED558CCD >> 1 % uint64(n))
}

// compareSum compares the sum of two ints, whatever they are, with a number.
func compareSum(a, b, n int) int {
	sum := new(big.Int).Add(big.NewInt(int64(a)), big.NewInt(int64(b)))
	return sum.Cmp(big.NewInt(int64(n)))
}

// products are those of all elements of the field: the remainders of the products of their polynomials.
var products = func() (list [256][256]byte) {
	for a := range list {
		for b := range list[a] {
			sum := 0
			for i := range 8 {
				sum ^= a << i * (b >> i & 1)
			}
			for i := 14; i >= 8; i-- {
				sum ^= 0x11D << (i - 8) * (sum >> i & 1)
			}
			list[a][b] = byte(sum)
		}
	}
	return list
}()

// inverseOf returns the element whose product with another one is 1.
func inverseOf(a byte) byte {
	return byte(slices.Index(products[a][:], 1))
}

// factor returns that of the data shard j in the parity shard i, for a number of data shards.
func factor(data, i, j int) byte { return inverseOf(byte((data + i) ^ j)) }

// add adds the product of an element and the bytes of a list to another list.
func add(sum []byte, by byte, list []byte) {
	for i, b := range list {
		sum[i] ^= products[by][b]
	}
}

// parityOf returns the parity shards of padded payloads.
func parityOf(shards [][]byte, parity int) [][]byte {
	var list [][]byte
	for i := range parity {
		sum := make([]byte, len(shards[0]))
		for j, shard := range shards {
			add(sum, factor(len(shards), i, j), shard)
		}
		list = append(list, sum)
	}
	return list
}

// paddedOf returns a payload followed by zero bytes, in new memory.
func paddedOf(payload []byte, length int) []byte {
	shard := slices.Clone(payload)
	for len(shard) < length {
		shard = append(shard, 0)
	}
	return shard
}

// solved returns the data shards whose combinations the first present shards are, by eliminating one after another from the equations.
func solved(shards [][]byte, have []bool, data int) [][]byte {
	var equations [][]byte // the factors of the data shards, followed by the bytes of the sum
	for i, shard := range shards {
		if !have[i] || len(equations) == data {
			continue
		}
		equation := make([]byte, data)
		for j := range data {
			if i >= data {
				equation[j] = factor(data, i-data, j)
			} else if i == j {
				equation[j] = 1
			}
		}
		equations = append(equations, append(equation, shard...))
	}
	for j := range data {
		at := j
		for equations[at][j] == 0 {
			at++
		}
		equations[j], equations[at] = equations[at], equations[j]
		one := make([]byte, len(equations[j]))
		add(one, inverseOf(equations[j][j]), equations[j])
		equations[j] = one
		for i := range equations {
			if i != j {
				add(equations[i], equations[i][j], one)
			}
		}
	}
	for j := range equations {
		equations[j] = equations[j][data:]
	}
	return equations
}

// rowIsValid follows the definition of a valid row.
func rowIsValid(s api.Set) bool {
	if s.ID < 1 || s.ID > 1<<50 || s.Data < 1 || s.Parity < 0 {
		return false
	}
	if compareSum(s.Data, s.Parity, len(s.Members)) != 0 || len(s.Members) > 16 {
		return false
	}
	return allDifferent(s.Members) && !slices.ContainsFunc(s.Members, func(n int) bool { return n < 1 || n > 1<<50 })
}

// allDifferent compares all pairs of numbers.
func allDifferent(numbers []int) bool {
	for i, n := range numbers {
		for _, m := range numbers[:i] {
			if n == m {
				return false
			}
		}
	}
	return true
}

// parts are the arguments of Build.
type parts struct {
	set      api.Set
	headers  []api.Header
	payloads [][]byte
	next     int
}

// cloned returns the same arguments in memory of their own.
func (x parts) cloned() parts {
	x.set.Members, x.headers, x.payloads = slices.Clone(x.set.Members), clonedHeaders(x.headers), clonedPayloads(x.payloads)
	return x
}

// clonedHeaders and clonedPayloads return the same lists in memory of their own.
func clonedHeaders(l []api.Header) []api.Header {
	l = slices.Clone(l)
	for i := range l {
		l[i].Entries = slices.Clone(l[i].Entries)
	}
	return l
}

func clonedPayloads(l [][]byte) [][]byte {
	l = slices.Clone(l)
	for i := range l {
		l[i] = slices.Clone(l[i])
	}
	return l
}

// built is what Build returns.
type built struct {
	headers  []api.Header
	payloads [][]byte
	row      api.Set
	e        api.Errno
}

// String describes a result without most of its bytes.
func (b built) String() string {
	return fmt.Sprintf("error %d, row %+v, headers %s, payloads %s", b.e, b.row, short(b.headers), short(b.payloads))
}

// rangeError returns the first error of P17.2, which concerns the set.
func rangeError(set api.Set) api.Errno {
	if set.ID < 1 || set.ID > 1<<50 || set.Data < 1 || set.Parity < 0 || compareSum(set.Data, set.Parity, 16) > 0 {
		return api.ErrRange
	}
	return api.OK
}

// buildError returns the error of P17.2.
func buildError(x parts) api.Errno {
	if e := rangeError(x.set); e != api.OK {
		return e
	}
	if len(x.headers) != x.set.Data || len(x.payloads) != x.set.Data {
		return api.ErrInvalid
	}
	for i, h := range x.headers {
		if !container.Valid(h) || h.Kind != api.ContainerData || h.Set != 0 || h.Size != len(x.payloads[i]) {
			return api.ErrInvalid
		}
	}
	if x.next < 1 || compareSum(x.next, x.set.Parity, 1<<50+1) > 0 {
		return api.ErrRange
	}
	if !allDifferent(numbersOf(x)) {
		return api.ErrExists
	}
	return api.OK
}

// numbersOf returns those of the members, data first.
func numbersOf(x parts) []int {
	var list []int
	for _, h := range x.headers {
		list = append(list, h.ID)
	}
	for i := range x.set.Parity {
		list = append(list, x.next+i)
	}
	return list
}

// buildOf follows P17.2.
func buildOf(x parts) built {
	if e := buildError(x); e != api.OK {
		return built{e: e}
	}
	length := 0
	for _, payload := range x.payloads {
		length = max(length, len(payload))
	}
	var shards [][]byte
	for _, payload := range x.payloads {
		shards = append(shards, paddedOf(payload, length))
	}
	want := built{headers: clonedHeaders(x.headers), payloads: clonedPayloads(x.payloads)}
	for i, payload := range parityOf(shards, x.set.Parity) {
		want.payloads = append(want.payloads, payload)
		want.headers = append(want.headers, api.Header{ID: x.next + i, Kind: api.ContainerParity, Version: x.headers[0].Version, Commit: x.headers[0].Commit, Size: length})
	}
	for i := range want.headers {
		h := &want.headers[i]
		h.Set, h.Index, h.Data, h.Parity = x.set.ID, i, x.set.Data, x.set.Parity
	}
	want.row = api.Set{ID: x.set.ID, Data: x.set.Data, Parity: x.set.Parity, Members: numbersOf(x)}
	return want
}

// sameHeaders reports whether two lists of headers are equal; nil and empty lists are.
func sameHeaders(a, b []api.Header) bool {
	return slices.EqualFunc(a, b, func(g, h api.Header) bool {
		same := slices.Equal(g.Entries, h.Entries)
		g.Entries, h.Entries = nil, nil
		return same && reflect.DeepEqual(g, h)
	})
}

// samePayloads reports whether two lists of payloads are equal; nil and empty lists are.
func samePayloads(a, b [][]byte) bool { return slices.EqualFunc(a, b, slices.Equal[[]byte]) }

// sameRow reports whether two rows are equal; nil and empty lists are.
func sameRow(a, b api.Set) bool {
	return a.ID == b.ID && a.Data == b.Data && a.Parity == b.Parity && slices.Equal(a.Members, b.Members)
}

// same reports whether two results are equal.
func (b built) same(c built) bool {
	return sameHeaders(b.headers, c.headers) && samePayloads(b.payloads, c.payloads) && sameRow(b.row, c.row) && b.e == c.e
}

// losses are the arguments of Recover.
type losses struct {
	s        api.Set
	payloads [][]byte
	have     []bool
	sizes    []int
}

// cloned returns the same arguments in memory of their own.
func (x losses) cloned() losses {
	x.s.Members = slices.Clone(x.s.Members)
	return losses{x.s, clonedPayloads(x.payloads), slices.Clone(x.have), slices.Clone(x.sizes)}
}

// recovered is what Recover returns.
type recovered struct {
	payloads [][]byte
	e        api.Errno
}

// count returns how many members are there.
func count(have []bool) int {
	n := 0
	for _, is := range have {
		if is {
			n++
		}
	}
	return n
}

// recoverError returns the error of P17.3, but for ErrCorrupt.
func recoverError(x losses) api.Errno {
	n := len(x.s.Members)
	if !rowIsValid(x.s) || len(x.payloads) != n || len(x.have) != n || len(x.sizes) != n {
		return api.ErrInvalid
	}
	for i, size := range x.sizes {
		if size < 0 || size > 65536 {
			return api.ErrInvalid
		}
		if i >= x.s.Data && size != slices.Max(x.sizes[:x.s.Data]) {
			return api.ErrInvalid
		}
		if x.have[i] && len(x.payloads[i]) != size {
			return api.ErrInvalid
		}
	}
	if count(x.have) < x.s.Data {
		return api.ErrLost
	}
	return api.OK
}

// recoverOf follows P17.3.
func recoverOf(x losses) recovered {
	if e := recoverError(x); e != api.OK {
		return recovered{e: e}
	}
	length := slices.Max(x.sizes[:x.s.Data])
	shards := make([][]byte, len(x.payloads))
	for i, is := range x.have {
		if is {
			shards[i] = paddedOf(x.payloads[i], length)
		}
	}
	all := solved(shards, x.have, x.s.Data)
	for i, shard := range all {
		for _, b := range shard[x.sizes[i]:] {
			if b != 0 {
				return recovered{e: api.ErrCorrupt}
			}
		}
	}
	all = append(all, parityOf(all, x.s.Parity)...)
	for i, is := range x.have {
		if is {
			all[i] = slices.Clone(x.payloads[i])
		}
		all[i] = all[i][:x.sizes[i]]
	}
	return recovered{payloads: all}
}

// volumes are the arguments of Place.
type volumes struct {
	l       []api.Volume
	free    []int
	pool    string
	n, need int
}

// cloned returns the same arguments in memory of their own.
func (x volumes) cloned() volumes {
	x.l, x.free = slices.Clone(x.l), slices.Clone(x.free)
	return x
}

// placed is what Place returns.
type placed struct {
	barcodes []string
	e        api.Errno
}

// couldBeChosen reports whether a volume has the pool, the state and enough free blocks.
func (x volumes) couldBeChosen(i int) bool {
	return x.l[i].Pool == x.pool && x.l[i].State == api.VolumeOpen && x.free[i] >= x.need
}

// placeOf follows P17.4: it takes the best one of the volumes that are left, one after another.
func placeOf(x volumes) placed {
	if len(x.free) != len(x.l) || x.n < 1 || x.need < 0 {
		return placed{e: api.ErrInvalid}
	}
	var left []int
	for i := range x.l {
		if x.couldBeChosen(i) {
			left = append(left, i)
		}
	}
	if len(left) < x.n {
		return placed{e: api.ErrFull}
	}
	var barcodes []string
	for range x.n {
		best := 0
		for at, i := range left {
			b := left[best]
			if x.free[i] > x.free[b] || x.free[i] == x.free[b] && strings.Compare(x.l[i].Barcode, x.l[b].Barcode) < 0 {
				best = at
			}
		}
		barcodes = append(barcodes, x.l[left[best]].Barcode)
		left = slices.Delete(left, best, best+1)
	}
	return placed{barcodes: barcodes}
}

// marginOf follows P17.5.
func marginOf(s api.Set, have []bool) int {
	if !rowIsValid(s) || len(have) != len(s.Members) || count(have) < s.Data {
		return -1
	}
	return count(have) - s.Data
}

// short describes a value in a message.
func short(x any) string {
	s := fmt.Sprintf("%+v", x)
	if len(s) > 400 {
		return fmt.Sprintf("%s .. (%d bytes)", s[:400], len(s))
	}
	return s
}

// unchanged checks that the arguments are what they were.
func unchanged(t *testing.T, what string, before, after any) {
	t.Helper()
	if !reflect.DeepEqual(before, after) {
		t.Errorf("%s: the arguments %s have become %s", what, short(before), short(after))
	}
}

// valid calls Valid and checks that it returns what it must, and does not change the row.
func valid(t *testing.T, s api.Set) bool {
	t.Helper()
	before := slices.Clone(s.Members)
	got := stripe.Valid(s)
	if got != rowIsValid(s) {
		t.Errorf("Valid of %+v: %t", s, got)
	}
	unchanged(t, "Valid", before, s.Members)
	return got
}

// build calls Build and checks that it returns what it must, and does not change its arguments.
func build(t *testing.T, what string, x parts) built {
	t.Helper()
	before := x.cloned()
	var got built
	got.headers, got.payloads, got.row, got.e = stripe.Build(x.set, x.headers, x.payloads, x.next)
	if want := buildOf(before); !got.same(want) {
		t.Errorf("%s: Build of %s: %s, want %s", what, short(before), got, want)
	}
	unchanged(t, what, before, x)
	return got
}

// restore calls Recover and checks that it returns what it must, and does not change its arguments.
func restore(t *testing.T, what string, x losses) recovered {
	t.Helper()
	before := x.cloned()
	var got recovered
	got.payloads, got.e = stripe.Recover(x.s, x.payloads, x.have, x.sizes)
	if want := recoverOf(before); !samePayloads(got.payloads, want.payloads) || got.e != want.e {
		t.Errorf("%s: Recover of %s: %s, want %s", what, short(before), short(got), short(want))
	}
	unchanged(t, what, before, x)
	return got
}

// place calls Place and checks that it returns what it must, and does not change its arguments.
func place(t *testing.T, what string, x volumes) placed {
	t.Helper()
	before := x.cloned()
	var got placed
	got.barcodes, got.e = stripe.Place(x.l, x.free, x.pool, x.n, x.need)
	if want := placeOf(before); !slices.Equal(got.barcodes, want.barcodes) || got.e != want.e {
		t.Errorf("%s: Place of %s: %s, want %s", what, short(before), short(got), short(want))
	}
	unchanged(t, what, before, x)
	return got
}

// margin calls Margin and checks that it returns what it must, and does not change its arguments.
func margin(t *testing.T, s api.Set, have []bool) int {
	t.Helper()
	beforeMembers, beforeHave := slices.Clone(s.Members), slices.Clone(have)
	got := stripe.Margin(s, have)
	if want := marginOf(s, have); got != want {
		t.Errorf("Margin of %+v with %v: %d, want %d", s, have, got, want)
	}
	unchanged(t, "Margin", beforeMembers, s.Members)
	unchanged(t, "Margin", beforeHave, have)
	return got
}
