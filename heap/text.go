package heap

import "gesso/api"

// NewText answers the heap with one thing more behind the others, of class nil
// and form api.Bytes, whose slots are the bytes of text, and its reference. It
// refuses what New refuses.
func NewText(h api.Heap, text string) (api.Heap, int, api.Errno) {
	k, o, e := New(h, 0, api.Bytes, len(text))
	if e != api.OK {
		return api.Heap{}, 0, e
	}
	// The words are New's own, and any byte can stand in them.
	first := o/2 + headWords
	for i := range len(text) {
		k.Words[first+i] = int(text[i])
	}
	return k, o, api.OK
}

// Text answers the text whose bytes the slots of x are. It is that of x if x
// is of api.Bytes; of other things it says nothing.
func Text(x api.Thing) string {
	text := make([]byte, len(x.Slots))
	for i, b := range x.Slots {
		text[i] = byte(b)
	}
	return string(text)
}
