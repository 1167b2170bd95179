package resolve_test

import (
	"slices"
	"strconv"
	"strings"
	"testing"

	"oriel/api"
	"oriel/match"
	"oriel/resolve"
	"oriel/unit"
)

// drawing is files told token by token, and what they mean: x#3 is a name that declares, known as 3; x@3 one that uses what is known as 3; x@3/0 one that is bound to it through the open 0; !x is where the fault is.
type drawing struct {
	files []api.File
	graph api.Graph
	known map[string]int
	used  []string // of each occurrence what it uses, as it is known; the empty text of what declares
	fault api.Fault
}

// draw reads a drawing of these files, whose fault, if it has one, is this error.
func draw(t *testing.T, err api.Errno, files ...string) *drawing {
	t.Helper()
	d := &drawing{known: map[string]int{}, fault: api.Fault{Err: err}}
	marks := 0
	for i, s := range files {
		var text strings.Builder
		for _, token := range strings.Fields(s) {
			if rest, marked := strings.CutPrefix(token, "!"); marked {
				token, marks = rest, marks+1
				d.fault.File, d.fault.At = i, text.Len()
			}
			text.WriteString(d.token(t, token))
			text.WriteString(" ")
		}
		d.files = append(d.files, api.File{Name: strconv.Itoa(i), Text: text.String()})
	}
	if (marks == 1) != (err != api.OK) || marks > 1 {
		t.Fatalf("%q: %d faults are marked", files, marks)
	}
	for i, label := range d.used {
		if d.graph.Edge[i] = i; label != "" {
			d.graph.Edge[i] = d.number(t, label)
		}
	}
	return d
}

// token is the bytes of a token; what is told of a name is noted.
func (d *drawing) token(t *testing.T, token string) string {
	t.Helper()
	at := strings.LastIndexAny(token, "#@")
	if at <= 0 || at == len(token)-1 {
		return token
	}
	label, use, via := token[at+1:], "", -1
	if token[at] == '@' {
		if used, through, ok := strings.Cut(label, "/"); ok {
			label, via = used, number(t, through)
		}
		use = label
	} else {
		if _, met := d.known[label]; met {
			t.Fatalf("%s is known already", token)
		}
		d.known[label] = len(d.used)
	}
	d.used = append(d.used, use)
	d.graph.Edge, d.graph.Via = append(d.graph.Edge, 0), append(d.graph.Via, via)
	return token[:at]
}

// number is which occurrence is known as this.
func (d *drawing) number(t *testing.T, label string) int {
	t.Helper()
	occ, met := d.known[label]
	if !met {
		t.Fatalf("nothing is known as %s", label)
	}
	return occ
}

// link adds the links told as 1-2 3-4.
func (d *drawing) link(t *testing.T, links string) {
	t.Helper()
	for _, told := range strings.Fields(links) {
		a, b, _ := strings.Cut(told, "-")
		d.graph.Links = append(d.graph.Links, api.Pair{A: d.number(t, a), B: d.number(t, b)})
	}
	d.graph.Links = match.Links(d.graph.Links...)
}

// number is s, read.
func number(t *testing.T, s string) int {
	t.Helper()
	n, err := strconv.Atoi(s)
	if err != nil {
		t.Fatal(err)
	}
	return n
}

// means holds what Resolve tells of files against what they are to mean.
func means(t *testing.T, links string, files ...string) {
	t.Helper()
	d := draw(t, api.OK, files...)
	d.link(t, links)
	u := load(t, d.files...)
	g, fault := resolve.Resolve(u)
	if fault != (api.Fault{}) {
		t.Errorf("%q: %v", files, fault)
		return
	}
	if len(u.Occs()) != len(d.used) {
		t.Errorf("%q: %d names are drawn, not %d", files, len(d.used), len(u.Occs()))
	}
	if !same(g, d.graph) {
		t.Errorf("%q: %v, not %v", files, g, d.graph)
	}
}

// fails holds what Resolve tells of files against the fault that they are to have.
func fails(t *testing.T, err api.Errno, files ...string) {
	t.Helper()
	d := draw(t, err, files...)
	g, fault := resolve.Resolve(load(t, d.files...))
	if !same(g, api.Graph{}) || fault != d.fault {
		t.Errorf("%q: %v %v, not %v", files, g, fault, d.fault)
	}
}

// same says whether both graphs are the same.
func same(g, h api.Graph) bool {
	return slices.Equal(g.Edge, h.Edge) && slices.Equal(g.Links, h.Links) && slices.Equal(g.Via, h.Via)
}

// load is the unit of files that have one.
func load(t *testing.T, files ...api.File) *unit.Unit {
	t.Helper()
	u, fault := unit.Load(files...)
	if u == nil || fault != (api.Fault{}) {
		t.Fatalf("%.1000q: %v", files, fault)
	}
	return u
}

// texts is files of these texts, with names of their own.
func texts(l ...string) []api.File {
	var files []api.File
	for i, s := range l {
		files = append(files, api.File{Name: "f" + strconv.Itoa(i), Text: s})
	}
	return files
}
