package container_test

import (
	"bytes"
	"encoding/binary"
	"fmt"
	"hash/crc32"
	"math/big"
	"slices"
	"strings"
	"testing"

	"tapearchive/api"
	"tapearchive/container"
)

// What the functions must return, computed sentence by sentence from the chapters 1, 2, 3, 14 and 15, without the layers below.

// random is a sequence of numbers that is the same in each run.
type random uint64

// below returns the next number, from 0 to n - 1.
func (r *random) below(n int) int {
	*r = *r*6364136223846793005 + 1442695040888963407
	x := uint64(*r)
	return int((x ^ x>>33) * 0xFF51AFD7ED558CCD >> 1 % uint64(n))
}

// crc returns the CRC-32C of bytes.
func crc(b []byte) uint32 { return crc32.Checksum(b, crc32.MakeTable(crc32.Castagnoli)) }

// exceeds reports whether the sum of two ints, whatever they are, is greater than a number.
func exceeds(a, b, most int) bool {
	sum := new(big.Int).Add(big.NewInt(int64(a)), big.NewInt(int64(b)))
	return sum.Cmp(big.NewInt(int64(most))) > 0
}

// numbersAreValid, placeIsValid and entriesAreValid follow the three points of the definition of a valid header.
func numbersAreValid(h api.Header) bool {
	if h.Kind != api.ContainerData && h.Kind != api.ContainerParity && h.Kind != api.ContainerLog {
		return false
	}
	if h.Version != 1 && h.Version != 2 {
		return false
	}
	if h.Commit < 0 || h.Commit > 1<<50 {
		return false
	}
	if h.Kind == api.ContainerLog && h.ID != 0 {
		return false
	}
	if h.Kind != api.ContainerLog && (h.ID < 1 || h.ID > 1<<50) {
		return false
	}
	return h.Size >= 0 && h.Size <= 4096*64
}

func placeIsValid(h api.Header) bool {
	if h.Set == 0 {
		return h.Kind != api.ContainerParity && h.Index == 0 && h.Data == 0 && h.Parity == 0
	}
	if h.Set < 1 || h.Set > 1<<50 || h.Kind == api.ContainerLog {
		return false
	}
	if h.Data < 1 || h.Parity < 0 || exceeds(h.Data, h.Parity, 16) {
		return false
	}
	if h.Kind == api.ContainerData {
		return h.Index >= 0 && h.Index <= h.Data-1
	}
	return h.Index >= h.Data && h.Index <= h.Data+h.Parity-1
}

func entriesAreValid(h api.Header) bool {
	if len(h.Entries) > 0 && h.Kind != api.ContainerData || len(h.Entries) > 64 {
		return false
	}
	sum := new(big.Int)
	for _, x := range h.Entries {
		if x.File < 1 || x.File > 1<<50 || x.Version < 1 || x.Version > 1<<50 || x.Offset < 0 || x.Length < 0 || exceeds(x.Offset, x.Length, 4096) {
			return false
		}
		sum.Add(sum, big.NewInt(int64(x.Length)))
	}
	return h.Kind != api.ContainerData || sum.Cmp(big.NewInt(int64(h.Size))) == 0
}

func validOf(h api.Header) bool {
	return numbersAreValid(h) && placeIsValid(h) && entriesAreValid(h)
}

// numberOf returns the bytes of a number.
func numberOf(n uint64) []byte {
	if n < 128 {
		return []byte{byte(n)}
	}
	return append([]byte{byte(n%128) + 128}, numberOf(n/128)...)
}

// numbersOf returns the numbers of the encoding of a header, whether it is valid or not.
func numbersOf(h api.Header) []uint64 {
	list := []uint64{uint64(h.ID), uint64(h.Kind), uint64(h.Version), uint64(h.Set), uint64(h.Index), uint64(h.Data), uint64(h.Parity), uint64(h.Commit)}
	list = append(list, uint64(len(h.Entries)))
	for _, x := range h.Entries {
		list = append(list, uint64(x.File), uint64(x.Version), uint64(x.Offset), uint64(x.Length), uint64(x.Sum)+1<<32)
	}
	return append(list, uint64(h.Size), uint64(h.Sum)+1<<32)
}

// bodyOf returns the bytes of numbers, one after another.
func bodyOf(numbers []uint64) []byte {
	var b []byte
	for _, n := range numbers {
		b = append(b, numberOf(n)...)
	}
	return b
}

// frameOf returns the frame with a body.
func frameOf(body []byte) []byte {
	length := binary.BigEndian.AppendUint32(nil, uint32(len(body)))
	sum := binary.BigEndian.AppendUint32(nil, crc(slices.Concat(length, body)))
	return slices.Concat([]byte{0xA7, 0x3C}, length, sum, body)
}

// divided returns bytes in data blocks of BlockSize bytes, the last one filled with zero bytes.
func divided(b []byte) []api.Block {
	var l []api.Block
	for i, x := range b {
		if i%64 == 0 {
			l = append(l, api.Block{Data: make([]byte, 64)})
		}
		l[i/64].Data[i%64] = x
	}
	return l
}

// headerOf returns the blocks of a header.
func headerOf(h api.Header) []api.Block { return divided(frameOf(bodyOf(numbersOf(h)))) }

// roomOf returns the number of bytes of the payload that a block has in a version.
func roomOf(version int) int {
	if version == 1 {
		return 64
	}
	return 64 - 4
}

// payloadBlocksOf returns the payload blocks of a payload.
func payloadBlocksOf(version int, payload []byte) []api.Block {
	var l []api.Block
	for i, x := range payload {
		if i%roomOf(version) == 0 {
			l = append(l, api.Block{})
		}
		last := &l[len(l)-1]
		last.Data = append(last.Data, x)
	}
	for i := range l {
		if version == 2 {
			l[i].Data = binary.BigEndian.AppendUint32(l[i].Data, crc(l[i].Data))
		}
	}
	return l
}

// partOf returns the part of an entry.
func partOf(h api.Header, entry int, payload []byte) []byte {
	for _, x := range h.Entries[:entry] {
		payload = payload[x.Length:]
	}
	return payload[:h.Entries[entry].Length]
}

// partsHaveSums reports whether the Sum of each entry is the checksum of its part.
func partsHaveSums(h api.Header, payload []byte) bool {
	for i, x := range h.Entries {
		if crc(partOf(h, i, payload)) != x.Sum {
			return false
		}
	}
	return true
}

// built is what Build returns.
type built struct {
	l []api.Block
	h api.Header
	e api.Errno
}

// buildOf follows P15.2 literally.
func buildOf(h api.Header, payload []byte) built {
	h.Size, h.Sum = len(payload), crc(payload)
	if !validOf(h) {
		return built{e: api.ErrInvalid}
	}
	if !partsHaveSums(h, payload) {
		return built{e: api.ErrChecksum}
	}
	h.Entries = slices.Clone(h.Entries)
	return built{append(headerOf(h), payloadBlocksOf(h.Version, payload)...), h, api.OK}
}

// bytesOf follows P14.2 literally.
func bytesOf(l []api.Block) []byte {
	var b []byte
	for _, x := range l {
		if x.Mark || x.Bad {
			break
		}
		b = append(b, x.Data...)
	}
	return b
}

// readFrame follows P3.3 at the offset 0 literally, and returns also the length of the frame.
func readFrame(b []byte) ([]byte, int, api.Errno) {
	if len(b) < 10 {
		return nil, 0, api.ErrTruncated
	}
	if b[0] != 0xA7 || b[1] != 0x3C {
		return nil, 0, api.ErrSyntax
	}
	n := int(binary.BigEndian.Uint32(b[2:]))
	if n > 65536 {
		return nil, 0, api.ErrTooLong
	}
	if len(b) < n+10 {
		return nil, 0, api.ErrTruncated
	}
	body := b[10 : n+10]
	if binary.BigEndian.Uint32(b[6:]) != crc(slices.Concat(b[2:6], body)) {
		return nil, 0, api.ErrChecksum
	}
	return body, n + 10, api.OK
}

// readNumbers returns the numbers that bytes consist of, and whether each of them has the form of P2.1.
func readNumbers(b []byte) ([]uint64, bool) {
	var numbers []uint64
	for len(b) > 0 {
		n, length := binary.Uvarint(b)
		if length <= 0 || !bytes.Equal(numberOf(n), b[:length]) {
			return nil, false
		}
		numbers, b = append(numbers, n), b[length:]
	}
	return numbers, true
}

// readHeader returns the valid header whose encoding bytes are, and whether there is one.
func readHeader(b []byte) (api.Header, bool) {
	numbers, ok := readNumbers(b)
	if !ok || len(numbers) < 11 || numbers[8] > 64 || len(numbers) != 11+5*int(numbers[8]) {
		return api.Header{}, false
	}
	n := func(i int) int { return int(min(numbers[i], 1<<63-1)) }
	h := api.Header{ID: n(0), Kind: n(1), Version: n(2), Set: n(3), Index: n(4), Data: n(5), Parity: n(6), Commit: n(7)}
	for i := range n(8) {
		at := 9 + 5*i
		if numbers[at+4]>>32 != 1 {
			return api.Header{}, false
		}
		h.Entries = append(h.Entries, api.Entry{File: n(at), Version: n(at + 1), Offset: n(at + 2), Length: n(at + 3), Sum: uint32(numbers[at+4])})
	}
	last := len(numbers) - 1
	h.Size, h.Sum = n(last-1), uint32(numbers[last])
	if numbers[last]>>32 != 1 || !validOf(h) {
		return api.Header{}, false
	}
	return h, true
}

// parsed is what Parse returns.
type parsed struct {
	h api.Header
	n int
	e api.Errno
}

// parseOf follows P15.3 literally.
func parseOf(l []api.Block) parsed {
	body, length, e := readFrame(bytesOf(l))
	if e != api.OK {
		return parsed{e: e}
	}
	n := length / 64
	if length%64 > 0 {
		n++
	}
	if len(l) < n {
		return parsed{e: api.ErrSyntax}
	}
	var all []byte
	for _, x := range l[:n] {
		if len(x.Data) != 64 {
			return parsed{e: api.ErrSyntax}
		}
		all = append(all, x.Data...)
	}
	if strings.Trim(string(all[length:]), "\x00") != "" {
		return parsed{e: api.ErrSyntax}
	}
	h, ok := readHeader(body)
	if !ok {
		return parsed{e: api.ErrCorrupt}
	}
	return parsed{h, n, api.OK}
}

// payloadBlockError returns the error of a payload block that must have n bytes of the payload.
func payloadBlockError(version, n int, b api.Block) api.Errno {
	if version == 2 {
		n += 4
	}
	switch {
	case b.Bad:
		return api.ErrMedia
	case b.Mark || len(b.Data) != n:
		return api.ErrSyntax
	case version == 2 && crc(b.Data[:n-4]) != binary.BigEndian.Uint32(b.Data[n-4:]):
		return api.ErrChecksum
	}
	return api.OK
}

// lengthsOf returns the number of bytes of the payload that each payload block has.
func lengthsOf(h api.Header) []int {
	var list []int
	for rest := h.Size; rest > 0; rest -= roomOf(h.Version) {
		list = append(list, min(rest, roomOf(h.Version)))
	}
	return list
}

// paid is what Payload returns.
type paid struct {
	h api.Header
	b []byte
	e api.Errno
}

// payloadOf follows P15.4 literally.
func payloadOf(l []api.Block) paid {
	p := parseOf(l)
	if p.e != api.OK {
		return paid{e: p.e}
	}
	lengths := lengthsOf(p.h)
	if len(l) < p.n+len(lengths) {
		return paid{e: api.ErrTruncated}
	}
	var b []byte
	for i, n := range lengths {
		block := l[p.n+i]
		if e := payloadBlockError(p.h.Version, n, block); e != api.OK {
			return paid{e: e}
		}
		b = append(b, block.Data[:n]...)
	}
	if crc(b) != p.h.Sum || !partsHaveSums(p.h, b) {
		return paid{e: api.ErrChecksum}
	}
	return paid{p.h, b, api.OK}
}

// needed is what Need returns.
type needed struct {
	s api.Span
	e api.Errno
}

// needOf follows P15.5 literally, byte by byte.
func needOf(h api.Header, entry, offset, length int) needed {
	if !validOf(h) {
		return needed{e: api.ErrInvalid}
	}
	if entry < 0 || entry >= len(h.Entries) {
		return needed{e: api.ErrNotFound}
	}
	if offset < 0 || length < 0 || exceeds(offset, length, h.Entries[entry].Length) {
		return needed{e: api.ErrRange}
	}
	var s api.Span
	front := len(headerOf(h))
	for i := range length {
		at := front + (beginOf(h, entry)+offset+i)/roomOf(h.Version)
		if i == 0 {
			s.From = at
		}
		s.Count = at - s.From + 1
	}
	return needed{s, api.OK}
}

// beginOf returns where the part of an entry begins in the payload.
func beginOf(h api.Header, entry int) int {
	at := 0
	for _, x := range h.Entries[:entry] {
		at += x.Length
	}
	return at
}

// extracted is what Extract returns.
type extracted struct {
	b []byte
	e api.Errno
}

// extractOf follows P15.6 literally.
func extractOf(h api.Header, entry, offset, length int, l []api.Block) extracted {
	need := needOf(h, entry, offset, length)
	if need.e != api.OK {
		return extracted{e: need.e}
	}
	if len(l) != need.s.Count {
		return extracted{e: api.ErrInvalid}
	}
	// All bytes of the payload, of which those that are not in these blocks are 0.
	payload := make([]byte, h.Size)
	lengths, front := lengthsOf(h), len(headerOf(h))
	for i, block := range l {
		number := need.s.From + i - front
		n := lengths[number]
		if e := payloadBlockError(h.Version, n, block); e != api.OK {
			return extracted{e: e}
		}
		copy(payload[number*roomOf(h.Version):], block.Data[:n])
	}
	return extracted{partOf(h, entry, payload)[offset:][:length], api.OK}
}

// equal reports whether two lists of blocks are equal; nil and empty ones are.
func equal(a, b []api.Block) bool {
	return slices.EqualFunc(a, b, func(a, b api.Block) bool {
		return a.Mark == b.Mark && a.Bad == b.Bad && bytes.Equal(a.Data, b.Data)
	})
}

// same reports whether two headers are equal.
func same(a, b api.Header) bool {
	return slices.Equal(a.Entries, b.Entries) && a.ID == b.ID && a.Kind == b.Kind && a.Version == b.Version && a.Set == b.Set && a.Index == b.Index &&
		a.Data == b.Data && a.Parity == b.Parity && a.Commit == b.Commit && a.Size == b.Size && a.Sum == b.Sum
}

// cloned returns the same blocks in memory of their own.
func cloned(l []api.Block) []api.Block {
	l = slices.Clone(l)
	for i := range l {
		l[i].Data = slices.Clone(l[i].Data)
	}
	return l
}

// clonedHeader returns the same header with entries of its own.
func clonedHeader(h api.Header) api.Header {
	h.Entries = slices.Clone(h.Entries)
	return h
}

// name describes blocks in a message.
func name(l []api.Block) string {
	var b strings.Builder
	for _, x := range l[:min(len(l), 20)] {
		fmt.Fprintf(&b, "[%x", x.Data[:min(len(x.Data), 200)])
		if x.Mark {
			b.WriteString(" mark")
		}
		if x.Bad {
			b.WriteString(" bad")
		}
		b.WriteString("]")
	}
	return fmt.Sprintf("%d blocks %s", len(l), b.String())
}

// checkValid checks Valid, HeaderBlocks and Blocks of a header, and that they do not change it.
func checkValid(t *testing.T, h api.Header) bool {
	t.Helper()
	before := clonedHeader(h)
	blocks, all := 0, 0
	if validOf(h) {
		blocks = len(headerOf(h))
		all = blocks + len(lengthsOf(h))
	}
	got := container.Valid(h)
	if got != validOf(before) {
		t.Errorf("Valid of %+v: %t", before, got)
	}
	if n := container.HeaderBlocks(h); n != blocks {
		t.Errorf("HeaderBlocks of %+v: %d, want %d", before, n, blocks)
	}
	if n := container.Blocks(h); n != all {
		t.Errorf("Blocks of %+v: %d, want %d", before, n, all)
	}
	if !same(h, before) {
		t.Errorf("%+v has become %+v", before, h)
	}
	return got
}

// build calls Build and checks that it returns what it must, and does not change its arguments.
func build(t *testing.T, h api.Header, payload []byte) built {
	t.Helper()
	before, bytesBefore := clonedHeader(h), slices.Clone(payload)
	var got built
	got.l, got.h, got.e = container.Build(h, payload)
	want := buildOf(before, bytesBefore)
	if !equal(got.l, want.l) || !same(got.h, want.h) || got.e != want.e {
		t.Errorf("Build of %+v with %d bytes: %s, %+v, error %d, want %s, %+v, error %d", before, len(payload), name(got.l), got.h, got.e, name(want.l), want.h, want.e)
	}
	if !same(h, before) || !bytes.Equal(payload, bytesBefore) {
		t.Errorf("Build has changed %+v with %d bytes", before, len(payload))
	}
	return got
}

// parse calls Parse and checks that it returns what it must, and does not change the blocks.
func parse(t *testing.T, l []api.Block) parsed {
	t.Helper()
	before := cloned(l)
	var got parsed
	got.h, got.n, got.e = container.Parse(l)
	want := parseOf(before)
	if !same(got.h, want.h) || got.n != want.n || got.e != want.e {
		t.Errorf("Parse of %s: %+v, want %+v", name(before), got, want)
	}
	if !equal(l, before) {
		t.Errorf("Parse has changed %s to %s", name(before), name(l))
	}
	return got
}

// pay calls Payload and checks that it returns what it must, and does not change the blocks.
func pay(t *testing.T, l []api.Block) paid {
	t.Helper()
	before := cloned(l)
	var got paid
	got.h, got.b, got.e = container.Payload(l)
	want := payloadOf(before)
	if !same(got.h, want.h) || !bytes.Equal(got.b, want.b) || got.e != want.e {
		t.Errorf("Payload of %s: %+v, want %+v", name(before), got, want)
	}
	if !equal(l, before) {
		t.Errorf("Payload has changed %s to %s", name(before), name(l))
	}
	return got
}

// need calls Need and checks that it returns what it must, and does not change the header.
func need(t *testing.T, h api.Header, entry, offset, length int) needed {
	t.Helper()
	before := clonedHeader(h)
	var got needed
	got.s, got.e = container.Need(h, entry, offset, length)
	if want := needOf(before, entry, offset, length); got != want {
		t.Errorf("Need of %+v, entry %d, offset %d, length %d: %+v, want %+v", before, entry, offset, length, got, want)
	}
	if !same(h, before) {
		t.Errorf("Need has changed %+v to %+v", before, h)
	}
	return got
}

// extract calls Extract and checks that it returns what it must, and does not change its arguments.
func extract(t *testing.T, h api.Header, entry, offset, length int, l []api.Block) extracted {
	t.Helper()
	before, blocksBefore := clonedHeader(h), cloned(l)
	var got extracted
	got.b, got.e = container.Extract(h, entry, offset, length, l)
	want := extractOf(before, entry, offset, length, blocksBefore)
	if !bytes.Equal(got.b, want.b) || got.e != want.e {
		t.Errorf("Extract of %+v, entry %d, offset %d, length %d from %s: %+v, want %+v", before, entry, offset, length, name(blocksBefore), got, want)
	}
	if !same(h, before) || !equal(l, blocksBefore) {
		t.Errorf("Extract has changed %+v or %s", before, name(blocksBefore))
	}
	return got
}
