package stripe_test

import (
	"math"
	"slices"

	"tapearchive/api"
)

// The sets, containers and volumes that the tests try.

// ints are the least and the greatest int, the bounds of all arguments, and those beyond each.
func ints() []int {
	return []int{
		math.MinInt, math.MinInt + 1, math.MinInt + 16, -1 << 50, -1 << 32, -17, -16, -2, -1, 0, 1, 2, 3, 4, 14, 15, 16, 17, 18, 255, 256, 257,
		1<<16 - 1, 1 << 16, 1<<16 + 1, 1 << 18, 1<<18 + 1, 1<<32 + 1, 1<<50 - 16, 1<<50 - 1, 1 << 50, 1<<50 + 1, 1<<50 + 2, 1<<50 + 16, 1 << 62, math.MaxInt - 16, math.MaxInt - 1, math.MaxInt,
	}
}

// isNumber reports whether a number may be that of a container or a set.
func isNumber(n int) bool { return n >= 1 && n <= 1<<50 }

// members returns n different numbers, which are neither in order nor in the opposite one, and of which the first ones are the bounds.
func members(n int) []int {
	list := []int{1 << 50, 1}
	for i := 2; i < n; i++ {
		list = append(list, 1000+i*37%17)
	}
	return list[:max(n, 0)]
}

// row returns a valid row.
func row(data, parity int) api.Set {
	return api.Set{ID: 9, Data: data, Parity: parity, Members: members(data + parity)}
}

// plans calls a function with the numbers of data and parity members of all valid rows.
func plans(call func(data, parity int)) {
	for data := 1; data <= 16; data++ {
		for parity := range 17 - data {
			call(data, parity)
		}
	}
}

// smallPlans are those of them for which all choices of members are tried.
func smallPlans() [][2]int {
	return [][2]int{{1, 0}, {1, 1}, {1, 2}, {1, 3}, {2, 0}, {2, 1}, {2, 2}, {2, 3}, {3, 0}, {3, 1}, {3, 2}, {3, 3}, {4, 1}, {4, 2}, {5, 3}, {6, 2}}
}

// choices returns all possibilities which of n members are there.
func choices(n int) [][]bool {
	list := make([][]bool, 1<<n)
	for number := range list {
		for i := range n {
			list[number] = append(list[number], number>>i&1 == 1)
		}
	}
	return list
}

// choice returns which of n members are there, where so many are, whichever they are.
func (r *random) choice(n, there int) []bool {
	have := make([]bool, n)
	for there > 0 {
		if i := r.below(n); !have[i] {
			have[i] = true
			there--
		}
	}
	return have
}

// all returns the list that says that n members are there.
func all(n int) []bool { return slices.Repeat([]bool{true}, n) }

// without returns the same list, in which some members are not there.
func without(have []bool, places ...int) []bool {
	have = slices.Clone(have)
	for _, i := range places {
		have[i] = false
	}
	return have
}

// mixed returns n bytes, which depend on n and on a number, and of which the last one is not 0.
func mixed(n, number int) []byte {
	r := random(n*100 + number)
	b := make([]byte, n)
	for i := range b {
		b[i] = byte(r.below(256))
	}
	if n > 0 {
		b[n-1] |= 1
	}
	return b
}

// header returns the valid header of a data container with a payload of n bytes.
func header(id, n int) api.Header {
	h := api.Header{ID: id, Kind: api.ContainerData, Version: 2, Commit: 7, Size: n, Sum: uint32(n + 5)}
	for at := 0; at < n || at == 0; at += 4096 {
		h.Entries = append(h.Entries, api.Entry{File: 20 + id%10, Version: 1 + at/4096, Length: min(4096, n-at), Sum: uint32(id%10 + 77)})
	}
	return h
}

// sample returns arguments of Build for data containers with payloads of these sizes and a number of parity containers.
func sample(parity int, sizes ...int) parts {
	x := parts{set: api.Set{ID: 9, Data: len(sizes), Parity: parity}, next: 501}
	for i, size := range sizes {
		// The numbers are not in order, and not all on one side of those of the parity containers.
		x.headers = append(x.headers, header(100+i*389%1000, size))
		x.payloads = append(x.payloads, mixed(size, i))
	}
	return x
}

// sizesOf returns those of payloads.
func sizesOf(payloads [][]byte) []int {
	var sizes []int
	for _, payload := range payloads {
		sizes = append(sizes, len(payload))
	}
	return sizes
}

// lossesOf returns arguments of Recover for the set that the reference builds, all members of which are there.
func lossesOf(parity int, sizes ...int) losses {
	b := buildOf(sample(parity, sizes...))
	return losses{b.row, b.payloads, all(len(b.payloads)), sizesOf(b.payloads)}
}

// lost returns the arguments with some members that are not there, and without their payloads.
func (x losses) lost(places ...int) losses {
	x = x.cloned()
	x.have = without(x.have, places...)
	for _, i := range places {
		x.payloads[i] = nil
	}
	return x
}

// only returns the arguments with those members alone that a choice says, and without the payloads of the others.
func (x losses) only(have []bool) losses {
	x = x.cloned()
	for i, is := range have {
		if !is {
			x.have[i], x.payloads[i] = false, nil
		}
	}
	return x
}

// manySizes are the sizes of payloads of data members that the tests try.
func manySizes() [][]int {
	list := [][]int{
		{0}, {1}, {64}, {0, 0}, {0, 1}, {1, 0}, {3, 1}, {1, 3}, {5, 5}, {64, 65}, {0, 0, 0}, {0, 4, 0}, {4, 0, 0}, {0, 0, 4}, {7, 7, 7}, {1, 2, 3}, {3, 2, 1}, {2, 3, 1},
		{9, 0, 9, 0}, {100, 1, 99, 2}, {4096, 4097, 4095}, {0, 1, 2, 3, 4, 5, 6, 7},
	}
	var r random
	for n := 1; n <= 16; n++ {
		equal, different := make([]int, n), make([]int, n)
		for i := range n {
			equal[i], different[i] = 10, r.below(20)
		}
		list = append(list, equal, different)
	}
	return list
}

// open returns an open volume of the pool p.
func open(barcode string) api.Volume {
	return api.Volume{Barcode: barcode, Pool: "p", State: api.VolumeOpen, Epoch: 1, Used: 5}
}

// opens returns open volumes with these free blocks, from which one is to be chosen, for which no free blocks are needed.
func opens(barcodes string, free ...int) volumes {
	x := volumes{free: free, pool: "p", n: 1}
	for i := range len(barcodes) {
		x.l = append(x.l, open(barcodes[i:i+1]))
	}
	return x
}
