package stage_test

import (
	"slices"
	"strings"
	"testing"

	"outfitter/api"
	"outfitter/disk"
	"outfitter/stage"
)

const mixedText = `journal a.1-b
changes 7
putrun bin/app "\"\\\n\x00~"
put a ""
remove etc
set UI/x "1 2"
unset old
service s bin/app 1 0
drop t
old 1
put etc "old"
`

func mixed() api.Journal {
	l := changes(`putrun bin/app "\"\\\n\x00~"`, `put a ""`, `remove etc`, `set UI/x "1 2"`, `unset old`, `service s bin/app 1 0`, `drop t`)
	return api.Journal{Id: "a.1-b", Changes: l, Old: []api.Change{put("etc", "old")}}
}

func isJournal(t *testing.T, what any, j api.Journal, e api.Errno, want api.Journal, wantError api.Errno) {
	t.Helper()
	if !same(j, want) || e != wantError {
		t.Errorf("%.300v: %.300v, %d, not %.300v, %d", what, j, e, want, wantError)
	}
}

func TestP121Print(t *testing.T) {
	for _, c := range []struct {
		j    api.Journal
		text string
	}{
		{mixed(), sealed(mixedText)},
		{api.Journal{Id: "a"}, "journal a\nchanges 0\nold 0\nsum dd15e704a44259f7\n"},
		{api.Journal{Id: "a", Changes: some()}, journal("a", some(), nil)},
		{api.Journal{Id: "a", Old: someOld()}, journal("a", nil, someOld())},
		{api.Journal{Id: long(40), Changes: some(), Old: someOld()}, journal(long(40), some(), someOld())},
		// The same place may stand there twice.
		{api.Journal{Id: "a", Changes: []api.Change{put("a", ""), put("a", "")}}, journal("a", []api.Change{put("a", ""), put("a", "")}, nil)},
		{api.Journal{Id: "a", Old: []api.Change{put("stage/x", "")}}, journal("a", nil, []api.Change{put("stage/x", "")})},
	} {
		if s, e := stage.PrintJournal(c.j); s != c.text || e != api.OK {
			t.Errorf("PrintJournal: %q, %d, not %q", s, e, c.text)
		}
		j, e := stage.ParseJournal(c.text)
		isJournal(t, c.text, j, e, c.j, api.OK)
	}
}

func TestP121PrintErrors(t *testing.T) {
	name, form, large := []api.Change{remove("")}, []api.Change{{Kind: api.ChangeRemove, File: api.File{Path: "a", Runs: true}}}, []api.Change{put("a", long(api.MaxData+1))}
	fat := slices.Repeat([]api.Change{put("a", long(api.MaxData))}, 100)
	for i, c := range []struct {
		id     string
		l, old []api.Change
		want   api.Errno
	}{
		{"", nil, nil, api.ErrName},
		{"A", nil, nil, api.ErrName},
		{"1", nil, nil, api.ErrName},
		{"a b", nil, nil, api.ErrName},
		{long(41), nil, nil, api.ErrName},
		{"", form, form, api.ErrName},
		{"", fat, fat, api.ErrName},
		{"a", []api.Change{{}}, form, api.ErrKind},
		{"a", form, []api.Change{{}}, api.ErrForm},
		{"a", nil, form, api.ErrForm},
		{"a", some(), name, api.ErrName},
		{"a", large, form, api.ErrLarge},
		{"a", slices.Concat(form, name), nil, api.ErrForm},
		{"a", slices.Concat(some(), name, form), nil, api.ErrName},
		{"a", nil, slices.Concat(form, name), api.ErrForm},
		// What is too large comes behind all changes.
		{"a", fat, nil, api.ErrLarge},
		{"a", nil, fat, api.ErrLarge},
		{"a", fat, form, api.ErrForm},
		{"a", slices.Concat(fat, form), nil, api.ErrForm},
		{"a", []api.Change{put("a", long(api.MaxData))}, nil, api.ErrLarge},
		{"a", nil, []api.Change{put("a", long(api.MaxData))}, api.ErrLarge},
	} {
		if s, e := stage.PrintJournal(api.Journal{Id: c.id, Changes: c.l, Old: c.old}); s != "" || e != c.want {
			t.Errorf("PrintJournal %d: %q, %d, not %d", i, s, e, c.want)
		}
	}
}

func TestP121Largest(t *testing.T) {
	rest := len(journal("a", []api.Change{put("a", "")}, []api.Change{put("b", "")}))
	for more, want := range []api.Errno{api.OK, api.ErrLarge, api.ErrLarge} {
		for first := range 2 {
			data := [2]string{long(30000), long(api.MaxData - rest - 30000 + more)}
			j := api.Journal{Id: "a", Changes: []api.Change{put("a", data[first])}, Old: []api.Change{put("b", data[1-first])}}
			s, e := stage.PrintJournal(j)
			if e != want || len(s) != api.MaxData && e == api.OK || s != "" && e != api.OK {
				t.Error(more, len(s), e)
			}
			got, e := stage.ParseJournal(journal(j.Id, j.Changes, j.Old))
			if want != api.OK {
				j = api.Journal{}
			}
			isJournal(t, more, got, e, j, want)
		}
	}
}

func TestP121ParseSyntax(t *testing.T) {
	for _, s := range []string{
		"",
		"\n",
		"journal\nchanges 0\nold 0\n",
		"journal\ta\nchanges 0\nold 0\n",
		" journal a\nchanges 0\nold 0\n",
		"Journal a\nchanges 0\nold 0\n",
		"\njournal a\nchanges 0\nold 0\n",
		"journal a\n\nchanges 0\nold 0\n",
		"journal a\nchanges 0\n\nold 0\n",
		"journal a\nchanges 0\nold 0\n\n",
		"journal a\nchanges 0\n",
		"journal a\nold 0\n",
		"changes 0\nold 0\n",
		"journal a\nold 0\nchanges 0\n",
		"journal a\nchanges 0\nold 0\nold 0\n",
		"journal a\nchanges\nold 0\n",
		"journal a\nchanges \nold 0\n",
		"journal a\nchanges 0 \nold 0\n",
		"journal a\nchanges  0\nold 0\n",
		"journal a\nchanges 00\nold 0\n",
		"journal a\nchanges +0\nold 0\n",
		"journal a\nchanges -0\nold 0\n",
		"journal a\nchanges -1\nold 0\n",
		"journal a\nchanges x\nold 0\n",
		"journal a\nchanges 0x0\nold 0\n",
		"journal a\nchanges 0\nold -1\n",
		"journal a\nchanges 0\nold 00\n",
		"journal a\nchanges 0\nold\n",
		"journal a\nchanges 1\nold 0\n",
		"journal a\nchanges 01\ndrop a\nold 0\n",
		"journal a\nchanges 0\ndrop a\nold 0\n",
		"journal a\nchanges 2\ndrop a\nold 0\n",
		"journal a\nchanges 1\ndrop a\ndrop b\nold 0\n",
		"journal a\nchanges 1\n\nold 0\n",
		"journal a\nchanges 1\ndrop  a\nold 0\n",
		"journal a\nchanges 1\ndrop a \nold 0\n",
		"journal a\nchanges 1\nput a\nold 0\n",
		"journal a\nchanges 1\nput a \"\\x41\"\nold 0\n",
		"journal a\nchanges 1\nfile a \"\"\nold 0\n",
		"journal a\nchanges 1\nservice a a 0 2\nold 0\n",
		"journal a\nchanges 0\nold 1\n",
		"journal a\nchanges 0\nold 1\ndrop\n",
		"journal a\nchanges 0\nold 0\ndrop a\n",
		"journal a\nchanges 0\nold 9223372036854775807\ndrop a\n",
		"journal a\nchanges 0\nold 9223372036854775808\ndrop a\n",
		"journal a\nchanges 18446744073709551616\nold 0\n",
		"journal a\nchanges 0\r\nold 0\n",
	} {
		j, e := stage.ParseJournal(sealed(s))
		isJournal(t, s, j, e, api.Journal{}, api.ErrSyntax)
	}
	body := "journal a\nchanges 0\nold 0\n"
	sum := disk.SumOf(body)
	for _, s := range []string{
		body,
		body + "sum " + sum,
		body + "sum " + sum + "\n\n",
		body + "sum " + sum + "\nsum " + sum + "\n",
		body + "sum " + sum + " \n",
		body + "sum  " + sum + "\n",
		body + " sum " + sum + "\n",
		body + "sum" + sum + "\n",
		body + "sum\n",
		body + "sum \n",
		body + "Sum " + sum + "\n",
		body + "sum " + sum[1:] + "\n",
		body + "sum 0" + sum + "\n",
		body + "sum " + strings.ToUpper(sum) + "\n",
		body + "sum " + sum[:15] + "g\n",
		body + "sum g" + sum[1:] + "\n",
		body + "sum " + sum[:8] + "G" + sum[9:] + "\n",
		body + sum + "\n",
	} {
		j, e := stage.ParseJournal(s)
		isJournal(t, s, j, e, api.Journal{}, api.ErrSyntax)
	}
}

// TestP121ParseOrder has texts with several errors.
func TestP121ParseOrder(t *testing.T) {
	const wrongSum = "sum 0123456789abcdef\n"
	fat := strings.Repeat("put a \""+long(api.MaxData)+"\"\n", 100)
	for _, c := range []struct {
		text string
		want api.Errno
	}{
		// What has not its form comes first, wherever it stands.
		{"journal \nchanges 1\ndrop A\nold 1\ndrop\n" + wrongSum, api.ErrSyntax},
		{"journal \nchanges 2\ndrop A\ndrop\nold 0\n" + wrongSum, api.ErrSyntax},
		{"journal a\nchanges 1\ndrop A\nold 0\n" + wrongSum + "\n", api.ErrSyntax},
		{"journal a\nchanges 101\n" + fat + "drop\nold 0\n" + wrongSum, api.ErrSyntax},
		{"journal \nchanges 1\ndrop A\nold 0\n" + wrongSum, api.ErrSum},
		{"journal a\nchanges 100\n" + fat + "old 0\n" + wrongSum, api.ErrSum},
		// Whatever bytes stand there, they are the Id.
		{sealed("journal \nchanges 0\nold 0\n"), api.ErrName},
		{sealed("journal  a\nchanges 0\nold 0\n"), api.ErrName},
		{sealed("journal a \nchanges 0\nold 0\n"), api.ErrName},
		{sealed("journal a b\nchanges 0\nold 0\n"), api.ErrName},
		{sealed("journal \x00\xff\"\r\nchanges 0\nold 0\n"), api.ErrName},
		{sealed("journal " + long(41) + "\nchanges 0\nold 0\n"), api.ErrName},
		{sealed("journal A\nchanges 2\nset a \"\\n\"\nset b \"\"\nold 0\n"), api.ErrName},
		{sealed("journal A\nchanges 100\n" + fat + "old 0\n"), api.ErrName},
		{sealed("journal a\nchanges 1\nset a \"\\n\"\nold 1\ndrop A\n"), api.ErrForm},
		{sealed("journal a\nchanges 1\ndrop a\nold 1\ndrop A\n"), api.ErrName},
		{sealed("journal a\nchanges 2\nset a \"\\n\"\ndrop A\nold 0\n"), api.ErrForm},
		{sealed("journal a\nchanges 3\ndrop a\ndrop A\nset a \"\\n\"\nold 0\n"), api.ErrName},
		{sealed("journal a\nchanges 0\nold 2\nset a \"\\n\"\ndrop A\n"), api.ErrForm},
		{sealed("journal a\nchanges 1\nput \n \"\"\nold 0\n"), api.ErrSyntax},
		{sealed("journal a\nchanges 1\nput / \"\"\nold 0\n"), api.ErrName},
		{sealed("journal a\nchanges 1\nput a \"" + long(api.MaxData+1) + "\"\nold 1\ndrop A\n"), api.ErrLarge},
		{sealed("journal a\nchanges 101\n" + fat + "set a \"\\n\"\nold 0\n"), api.ErrForm},
		{sealed("journal a\nchanges 100\n" + fat + "old 1\ndrop A\n"), api.ErrName},
		{sealed("journal a\nchanges 100\n" + fat + "old 0\n"), api.ErrLarge},
	} {
		j, e := stage.ParseJournal(c.text)
		isJournal(t, c.text, j, e, api.Journal{}, c.want)
	}
}

// TestP121Changed has journals that were cut anywhere, or have one other byte.
func TestP121Changed(t *testing.T) {
	whole := someJournal()
	for i := range whole {
		j, e := stage.ParseJournal(whole[:i])
		isJournal(t, whole[:i], j, e, api.Journal{}, api.ErrSyntax)
		if i > 0 {
			j, e = stage.ParseJournal(whole[i:])
			isJournal(t, whole[i:], j, e, api.Journal{}, api.ErrSyntax)
		}
		for _, c := range []byte{0, '\n', ' ', '0', '1', 'a', '"', '\\', whole[i] ^ 1, whole[i] ^ 32} {
			if c == whole[i] {
				continue
			}
			s := whole[:i] + string([]byte{c}) + whole[i+1:]
			if j, e := stage.ParseJournal(s); e != api.ErrSyntax && e != api.ErrSum || !same(j, api.Journal{}) {
				t.Errorf("%q: %d", s, e)
			}
		}
	}
}

func TestP121Look(t *testing.T) {
	whole := someJournal()
	read := api.Journal{Id: "t1", Changes: some(), Old: someOld()}
	large := sealed("journal a\nchanges 1\ndrop A\nold 0\n")
	runs := put("stage/journal", whole)
	runs.File.Runs = true
	for i, c := range []struct {
		m    api.Machine
		j    api.Journal
		want int
	}{
		{api.Machine{}, api.Journal{}, 0},
		{before(), api.Journal{}, 0},
		{machine(`file stage "x"`), api.Journal{}, 0},
		{with(before(), put("journal", whole), put("stage/journals", whole), put("stage/done", whole), put("stage/back", whole)), api.Journal{}, 0},
		{with(before(), put("stage/journal/x", whole)), api.Journal{}, 0},
		{with(before(), put("stage/journal", "")), api.Journal{}, 1},
		{with(before(), put("stage/journal", whole[:len(whole)/2])), api.Journal{}, 1},
		{with(before(), put("stage/journal", whole+"\n")), api.Journal{}, 1},
		{with(before(), put("stage/journal", strings.Replace(whole, "first", "First", 1))), api.Journal{}, 1},
		{with(before(), put("stage/journal", large)), api.Journal{}, 1},
		{with(before(), put("stage/journal", whole)), read, 2},
		{with(before(), runs), read, 2},
		{with(api.Machine{}, put("stage/journal", whole), put("stage/done", ""), put("stage/back", ""), put("stage/a", "")), read, 2},
	} {
		j, n, e := stage.Look(c.m)
		isJournal(t, i, j, e, c.j, api.OK)
		if n != c.want {
			t.Error(i, n)
		}
	}
}
