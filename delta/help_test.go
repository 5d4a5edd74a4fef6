package delta_test

import (
	"reflect"
	"strconv"
	"strings"
	"testing"

	"outfitter/api"
	"outfitter/delta"
	"outfitter/disk"
)

// pieces reads pieces with blanks between them: `3+4` is a copy of 4 bytes from 3 on, `=ab` is Data.
func pieces(text string) []api.Piece {
	var l []api.Piece
	for _, word := range strings.Fields(text) {
		data, is := strings.CutPrefix(word, "=")
		if is {
			l = append(l, api.Piece{Data: data})
			continue
		}
		at, long, _ := strings.Cut(word, "+")
		l = append(l, api.Piece{At: whole(at), Long: whole(long)})
	}
	return l
}

func whole(text string) int {
	n, err := strconv.Atoi(text)
	if err != nil {
		panic(err)
	}
	return n
}

// show writes pieces as they are read above.
func show(l []api.Piece) string {
	var words []string
	for _, p := range l {
		word := strconv.Itoa(p.At) + "+" + strconv.Itoa(p.Long)
		if p.Data != "" {
			word = "=" + p.Data
		}
		if p.Data != "" && (p.At != 0 || p.Long != 0) {
			word += "!"
		}
		words = append(words, word)
	}
	return strings.Join(words, " ")
}

// made is what pieces make of a text.
func made(a string, l []api.Piece) string {
	b := ""
	for _, p := range l {
		if p.Data != "" {
			b += p.Data
		} else {
			b += a[p.At : p.At+p.Long]
		}
	}
	return b
}

// between is the delta with these pieces, from a to what they make of it.
func between(a, text string) api.Delta {
	l := pieces(text)
	b := made(a, l)
	return api.Delta{Old: len(a), New: len(b), OldSum: disk.SumOf(a), NewSum: disk.SumOf(b), Pieces: l}
}

// wrong is a delta with each error of Check; fix takes the first so many away.
func wrong(fix int) (api.Delta, api.Errno) {
	sum := disk.SumOf("")
	d := api.Delta{Old: -1, New: -1, OldSum: "", NewSum: "", Pieces: make([]api.Piece, api.MaxPieces+1)}
	errors := []api.Errno{api.ErrRange, api.ErrRange, api.ErrForm, api.ErrForm, api.ErrLarge, api.ErrRange, api.ErrConflict, api.OK}
	fixes := []func(){
		func() { d.Old = 9 },
		func() { d.New = 9 },
		func() { d.OldSum = sum },
		func() { d.NewSum = sum },
		func() { d.Pieces = make([]api.Piece, 1) },
		func() { d.Pieces[0].Long = 8 },
		func() { d.Pieces[0].Long = 9 },
	}
	for _, f := range fixes[:fix] {
		f()
	}
	return d, errors[fix]
}

const wrongs = 7 // that can be taken away

// isDelta checks a result that is a delta.
func isDelta(t *testing.T, what any, d api.Delta, e api.Errno, want api.Delta, wantError api.Errno) {
	t.Helper()
	if !same(d, want) || e != wantError {
		t.Errorf("%v: %d, %d, %s, %s, %.500q: %d, not %d, %d, %s, %s, %.500q: %d", what,
			d.Old, d.New, d.OldSum, d.NewSum, show(d.Pieces), e, want.Old, want.New, want.OldSum, want.NewSum, show(want.Pieces), wantError)
	}
}

// applies sees that a delta makes b of a.
func applies(t *testing.T, a, b string, d api.Delta) {
	t.Helper()
	if got, e := delta.Apply(a, d); got != b || e != api.OK {
		t.Errorf("Apply(%.500q, %.500q): %.500q, %d, not %.500q", a, show(d.Pieces), got, e, b)
	}
}

// same compares what can hold slices: nil and empty ones are the same.
func same(a, b any) bool { return sameValue(reflect.ValueOf(a), reflect.ValueOf(b)) }

func sameValue(a, b reflect.Value) bool {
	switch a.Kind() {
	case reflect.Slice:
		if a.Len() != b.Len() {
			return false
		}
		for i := range a.Len() {
			if !sameValue(a.Index(i), b.Index(i)) {
				return false
			}
		}
		return true
	case reflect.Struct:
		for i := range a.NumField() {
			if !sameValue(a.Field(i), b.Field(i)) {
				return false
			}
		}
		return true
	}
	return a.Equal(b)
}
