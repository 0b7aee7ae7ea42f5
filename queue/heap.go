package queue

import "cmp"

// slot is an item of a queue by time.
type slot struct {
	at   int64
	put  int
	item int
}

// compare tells the order of slots; no two of one queue are equal, as their puts are not.
func compare(a, b slot) int {
	return cmp.Or(cmp.Compare(a.at, b.at), cmp.Compare(a.put, b.put))
}

// timeHeap is what container/heap orders. It knows where each item stands, so that one in the midst is found without a search.
type timeHeap struct {
	slots  []slot
	places map[int]int
}

func (h *timeHeap) Len() int { return len(h.slots) }

func (h *timeHeap) Less(i, j int) bool { return compare(h.slots[i], h.slots[j]) < 0 }

func (h *timeHeap) Swap(i, j int) {
	h.slots[i], h.slots[j] = h.slots[j], h.slots[i]
	h.places[h.slots[i].item] = i
	h.places[h.slots[j].item] = j
}

// Push is for container/heap alone.
func (h *timeHeap) Push(x any) {
	s := x.(slot)
	if h.places == nil {
		h.places = map[int]int{}
	}
	h.places[s.item] = len(h.slots)
	h.slots = append(h.slots, s)
}

// Pop is for container/heap alone; the place of what it answers is still known then.
func (h *timeHeap) Pop() any {
	last := len(h.slots) - 1
	s := h.slots[last]
	h.slots = h.slots[:last]
	return s
}
