package model

import (
	"math"
	"testing"

	"gesso/api"
)

// comes asks what Reckon answers.
func comes(t *testing.T, want int, is bool, kind int, numbers ...int) {
	t.Helper()
	if n, ok := Reckon(kind, numbers...); n != want || ok != is {
		t.Errorf("kind %d of %v: %d %v, want %d %v", kind, numbers, n, ok, want, is)
	}
}

func TestReckon(t *testing.T) {
	comes(t, 5, true, api.NAdd, 2, 3)
	comes(t, -1, true, api.NSub, 2, 3)
	comes(t, 6, true, api.NMul, 2, 3)
	comes(t, 1, true, api.NLess, 2, 3)
	comes(t, 0, true, api.NLess, 3, 3)
	comes(t, 0, true, api.NSame, 2, 3)
	comes(t, 1, true, api.NSame, 3, 3)
	comes(t, -3, true, api.NNeg, 3)
	comes(t, 0, true, api.NNot, 3)
	comes(t, 1, true, api.NNot, 0)
}

func TestReckonAtTheBounds(t *testing.T) {
	const most, least = 1<<30 - 1, -1 << 30
	comes(t, most, true, api.NAdd, most-1, 1)
	comes(t, 0, false, api.NAdd, most, 1)
	comes(t, least, true, api.NSub, -most, 1)
	comes(t, 0, false, api.NSub, least, 1)
	comes(t, most, true, api.NMul, 32767, 32769)
	comes(t, 0, false, api.NMul, 32768, 32768)
	comes(t, least, true, api.NMul, 32768, -32768)
	comes(t, 0, false, api.NMul, least, least)
	comes(t, -most, true, api.NNeg, most)
	comes(t, 0, false, api.NNeg, least)
	comes(t, 0, true, api.NNot, least)
	comes(t, 1, true, api.NLess, least, most)
	comes(t, 1, true, api.NSame, least, least)
}

// TestReckonWrongInputs has numbers that none may be, of any kind and any number
// of them.
func TestReckonWrongInputs(t *testing.T) {
	for kind := -1; kind < 40; kind++ {
		comes(t, 0, false, kind)
		comes(t, 0, false, kind, 1, 1, 1)
		for _, n := range []int{1 << 30, -1<<30 - 1, math.MaxInt, math.MinInt} {
			comes(t, 0, false, kind, n)
			comes(t, 0, false, kind, n, n)
			comes(t, 0, false, kind, 0, n)
			comes(t, 0, false, kind, n, 0)
		}
		_, one := Reckon(kind, 1)
		_, two := Reckon(kind, 1, 1)
		if one != (kind == api.NNeg || kind == api.NNot) || two != (api.NLess <= kind && kind <= api.NMul) {
			t.Error(kind, one, two)
		}
	}
}
