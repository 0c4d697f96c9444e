package rules_test

import (
	"bytes"
	"go/ast"
	"go/format"
	"go/parser"
	"go/token"
	"io/fs"
	"os"
	"path/filepath"
	"slices"
	"strconv"
	"strings"
	"testing"
)

const longest = 60

func library() []string {
	return []string{
		"bytes", "cmp", "container/heap", "errors", "iter", "maps", "math", "math/bits", "slices", "sort",
		"strconv", "strings", "sync", "sync/atomic", "unicode", "unicode/utf8",
	}
}

// layers stand in their order: each leans only on those ahead of it.
func layers() []string {
	return []string{
		"api", "dev", "ring", "rec", "file", "pool", "redo", "store", "space", "slot", "heap", "key", "node", "tree",
		"lock", "wait", "value", "row", "lex", "parse", "bind", "eval", "cost", "plan", "exec", "cat", "engine", "script",
	}
}

// program lists the program's Go files; tests may use all of Go.
func program(t *testing.T) []string {
	t.Helper()
	var l []string
	e := filepath.WalkDir("..", func(path string, d fs.DirEntry, e error) error {
		if e != nil {
			return e
		}
		if d.IsDir() && (d.Name() == ".git" || d.Name() == "sharedtests") {
			return filepath.SkipDir
		}
		if strings.HasSuffix(path, ".go") && !strings.HasSuffix(path, "_test.go") {
			l = append(l, path)
		}
		return nil
	})
	if e != nil {
		t.Fatal(e)
	}
	return l
}

func TestLanguage(t *testing.T) {
	l := program(t)
	if len(l) < len(layers()) {
		t.Fatalf("%d files of %d packages", len(l), len(layers()))
	}
	for _, path := range l {
		src, e := os.ReadFile(path)
		if e != nil {
			t.Fatal(e)
		}
		for _, fault := range faults(filepath.Base(filepath.Dir(path)), src) {
			t.Errorf("%s: %s", path, fault)
		}
	}
}

// faults tells what of a package's file lies outside the language.
func faults(pack string, src []byte) []string {
	set := token.NewFileSet()
	f, e := parser.ParseFile(set, "", src, parser.ParseComments)
	if e != nil {
		return []string{e.Error()}
	}
	var l []string
	if neat, e := format.Source(src); e != nil || !bytes.Equal(neat, src) {
		l = append(l, "not gofmt's layout")
	}
	for _, x := range f.Imports {
		path, _ := strconv.Unquote(x.Path.Value)
		if !mayImport(pack, path) {
			l = append(l, "imports "+path)
		}
	}
	for _, g := range f.Comments {
		for _, c := range g.List {
			if strings.HasPrefix(c.Text, "//go:") || strings.HasPrefix(c.Text, "// +build") {
				l = append(l, "has the line "+c.Text)
			}
		}
	}
	for _, d := range f.Decls {
		fn, ok := d.(*ast.FuncDecl)
		if !ok {
			continue
		}
		if lines := set.Position(fn.End()).Line - set.Position(fn.Pos()).Line + 1; lines > longest {
			l = append(l, fn.Name.Name+" has "+strconv.Itoa(lines)+" lines")
		}
	}
	return append(l, outside(f)...)
}

func mayImport(pack, path string) bool {
	own, ok := strings.CutPrefix(path, "palimpsest/")
	if !ok {
		return slices.Contains(library(), path)
	}
	from, to := slices.Index(layers(), pack), slices.Index(layers(), own)
	return from < 0 || to < from
}

// outside tells the names of allowed packages that are not allowed themselves.
func outside(f *ast.File) []string {
	var l []string
	ast.Inspect(f, func(n ast.Node) bool {
		s, ok := n.(*ast.SelectorExpr)
		if !ok {
			return true
		}
		x, ok := s.X.(*ast.Ident)
		if !ok || x.Obj != nil {
			return true
		}
		switch x.Name + "." + s.Sel.Name {
		case "iter.Pull", "iter.Pull2", "sync.Cond", "sync.NewCond", "sync.Map", "sync.Pool",
			"sync.OnceFunc", "sync.OnceValue", "sync.OnceValues":
			l = append(l, "uses "+x.Name+"."+s.Sel.Name)
		}
		return true
	})
	return l
}

func TestFaultsAreFound(t *testing.T) {
	long := "package dev\n\nfunc f() {\n" + strings.Repeat("\tg()\n", longest) + "}\n"
	for _, x := range []struct{ src, fault string }{
		{"package dev\n", ""},
		{"package dev\n\nimport \"slices\"\n", ""},
		{"package dev\n\nimport \"palimpsest/api\"\n", ""},
		{"package dev\n\nimport \"fmt\"\n", "imports fmt"},
		{"package dev\n\nimport \"palimpsest/ring\"\n", "imports palimpsest/ring"},
		{"package dev\n\nimport \"example.com/x\"\n", "imports example.com/x"},
		{"package dev\n\n//go:noinline\nfunc f() {}\n", "has the line //go:noinline"},
		{"package  dev\n", "not gofmt's layout"},
		{"package dev\n\nimport \"iter\"\n\nvar f = iter.Pull[int]\n", "uses iter.Pull"},
		{long, "f has 62 lines"},
	} {
		got := strings.Join(faults("dev", []byte(x.src)), ", ")
		if got != x.fault {
			t.Errorf("%q: %q, want %q", x.src, got, x.fault)
		}
	}
}
