// Package rules holds the program's source against ../shared/LANGUAGE.md, as far as a look at the text can.
package rules

import (
	"bytes"
	"go/ast"
	"go/format"
	"go/parser"
	"go/token"
	"io/fs"
	"os"
	"path/filepath"
	"slices"
	"strconv"
	"strings"
	"testing"
)

const longest = 60 // lines of a function

var library = []string{
	"bytes", "cmp", "container/heap", "errors", "iter", "maps", "math", "math/bits", "slices", "sort",
	"strconv", "strings", "sync", "sync/atomic", "unicode", "unicode/utf8",
}

// sources are the Go files of the project, by path, with what they contain.
func sources(t *testing.T) map[string][]byte {
	t.Helper()
	files := map[string][]byte{}
	err := filepath.WalkDir("..", func(path string, d fs.DirEntry, err error) error {
		if err != nil {
			return err
		}
		if d.IsDir() && (d.Name() == ".git" || d.Name() == "sharedtests") {
			return filepath.SkipDir
		}
		if strings.HasSuffix(path, ".go") {
			files[path], err = os.ReadFile(path)
		}
		return err
	})
	if err != nil {
		t.Fatal(err)
	}
	if len(files) < 28 {
		t.Fatal("the source was not found: only", len(files), "files")
	}
	return files
}

func isTest(path string) bool { return strings.HasSuffix(path, "_test.go") }

func TestLayout(t *testing.T) {
	for path, text := range sources(t) {
		if want, err := format.Source(text); err != nil || !bytes.Equal(want, text) {
			t.Error(path, "is not laid out by gofmt:", err)
		}
	}
}

func TestImports(t *testing.T) {
	for path, text := range sources(t) {
		if isTest(path) {
			continue
		}
		f, err := parser.ParseFile(token.NewFileSet(), path, text, parser.ParseComments)
		if err != nil {
			t.Fatal(err)
		}
		for _, i := range f.Imports {
			name, _ := strconv.Unquote(i.Path.Value)
			if !strings.HasPrefix(name, "courier/") && !slices.Contains(library, name) {
				t.Error(path, "imports", name)
			}
		}
		for _, g := range f.Comments {
			for _, c := range g.List {
				if strings.HasPrefix(c.Text, "//go:") || strings.HasPrefix(c.Text, "// +build") {
					t.Error(path, "has the line", c.Text)
				}
			}
		}
	}
}

func TestFunctionLength(t *testing.T) {
	for path, text := range sources(t) {
		if isTest(path) {
			continue
		}
		set := token.NewFileSet()
		f, err := parser.ParseFile(set, path, text, 0)
		if err != nil {
			t.Fatal(err)
		}
		for _, d := range f.Decls {
			if fn, ok := d.(*ast.FuncDecl); ok {
				if n := set.Position(fn.End()).Line - set.Position(fn.Pos()).Line + 1; n > longest {
					t.Error(path, fn.Name.Name, "has", n, "lines")
				}
			}
		}
	}
}

// layers are the packages of the map, the lowest first.
var layers = strings.Fields("api meter trap sha mac chacha poly aead curve disk slots code chain head skip ratchet stream tree proof desc blob frame bits pace upload download table client world")

func TestLayersUseOnlyLowerOnes(t *testing.T) {
	for path, text := range sources(t) {
		own := slices.Index(layers, filepath.Base(filepath.Dir(path)))
		if isTest(path) || own < 0 {
			continue
		}
		f, err := parser.ParseFile(token.NewFileSet(), path, text, parser.ImportsOnly)
		if err != nil {
			t.Fatal(err)
		}
		for _, i := range f.Imports {
			name, _ := strconv.Unquote(i.Path.Value)
			if used, ok := strings.CutPrefix(name, "courier/"); ok {
				if at := slices.Index(layers, used); at < 0 || at >= own {
					t.Error(path, "uses", used)
				}
			}
		}
	}
}
