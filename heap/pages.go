package heap

import (
	"slices"

	"registrar/api"
	"registrar/page"
)

// maxData is how many bytes data has at most, so that a new page always takes it.
const maxData = 255

// clones are copies of pages.
func clones(pages [][]byte) [][]byte {
	var l [][]byte
	for _, p := range pages {
		l = append(l, slices.Clone(p))
	}
	return l
}

// with is a copy of a list of pages that has another page at a number, which may be the one behind the last.
func with(pages [][]byte, number int, p []byte) [][]byte {
	l := slices.Clone(pages)
	if number == len(l) {
		return append(l, p)
	}
	l[number] = p
	return l
}

// trimmed are pages up to the last one that has a slot that is not empty.
func trimmed(pages [][]byte) [][]byte {
	n := len(pages)
	for n > 0 && len(page.Slots(pages[n-1])) == 0 {
		n--
	}
	return pages[:n]
}

// pageAt is the page of a number, or a new one, if there is none.
func pageAt(pages [][]byte, number int) []byte {
	if number < len(pages) {
		return pages[number]
	}
	return page.New()
}

// put are pages with data in the first one that takes it, or in a new one, and where it is.
func put(pages [][]byte, data []byte) ([][]byte, Rid, api.Errno) {
	for number := range api.MaxPages {
		if laid, slot, err := page.Put(pageAt(pages, number), data); err == api.OK {
			return with(pages, number, laid), Rid{Page: number, Slot: slot}, api.OK
		}
	}
	return nil, Rid{}, api.ErrFull
}

// drop are pages without what is at a place, whose page is there, and without the pages that are let go for it.
func drop(pages [][]byte, at Rid) ([][]byte, api.Errno) {
	p, err := page.Drop(pages[at.Page], at.Slot)
	if err != api.OK {
		return nil, err
	}
	return trimmed(with(pages, at.Page, p)), api.OK
}
