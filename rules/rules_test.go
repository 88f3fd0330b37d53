// Package rules holds the layers' imports against ../shared/LANGUAGE.md and the map of the document.
package rules

import (
	"go/parser"
	"go/token"
	"path/filepath"
	"slices"
	"strconv"
	"strings"
	"testing"
)

// library are the packages of Go's library that the layers may use.
var library = []string{
	"bytes", "cmp", "container/heap", "errors", "iter", "maps", "math", "math/bits", "slices", "sort",
	"strconv", "strings", "sync", "sync/atomic", "unicode", "unicode/utf8",
}

// layers are the packages of the map, the lowest first.
var layers = strings.Fields("api meter trap sha mac chacha poly aead curve disk slots code chain head skip ratchet stream tree proof desc blob frame bits pace upload download table client world")

// imports are what the files of a folder, but the tests, import.
func imports(t *testing.T, folder string) (names []string) {
	t.Helper()
	files, err := filepath.Glob(filepath.Join("..", folder, "*.go"))
	if err != nil || len(files) == 0 {
		t.Fatal(folder, err)
	}
	for _, path := range files {
		if strings.HasSuffix(path, "_test.go") {
			continue
		}
		f, err := parser.ParseFile(token.NewFileSet(), path, nil, parser.ImportsOnly)
		if err != nil {
			t.Fatal(err)
		}
		for _, i := range f.Imports {
			name, err := strconv.Unquote(i.Path.Value)
			if err != nil {
				t.Fatal(err)
			}
			names = append(names, name)
		}
	}
	return names
}

func TestLayersUseTheLibraryAndLowerLayers(t *testing.T) {
	for own, folder := range layers {
		for _, name := range imports(t, folder) {
			used, ours := strings.CutPrefix(name, "courier/")
			if !ours && !slices.Contains(library, name) {
				t.Error(folder, "imports", name)
			}
			if at := slices.Index(layers, used); ours && at >= own {
				t.Error(folder, "uses", used, "which is not below it")
			}
		}
	}
}
