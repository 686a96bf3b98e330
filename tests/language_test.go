package tests

import (
	"bytes"
	"go/ast"
	"go/format"
	"go/parser"
	"go/token"
	"os"
	"path/filepath"
	"slices"
	"strconv"
	"strings"
	"testing"
)

const module = "loop.example/g00004"
const mostLines = 60

func allowedImports() []string {
	return []string{"bytes", "cmp", "container/heap", "errors", "iter", "maps", "math", "math/big", "math/bits", "slices",
		"sort", "strconv", "strings", "sync", "sync/atomic", "unicode", "unicode/utf8"}
}

// sources names the Go files of the program; anything else beside them is a failure.
func sources(t *testing.T) []string {
	t.Helper()
	entries, err := os.ReadDir("../impl")
	if err != nil {
		t.Fatal(err)
	}
	var paths []string
	for _, e := range entries {
		if e.IsDir() || !strings.HasSuffix(e.Name(), ".go") {
			t.Errorf("impl/%s is no Go file", e.Name())
			continue
		}
		if !strings.HasSuffix(e.Name(), "_test.go") {
			paths = append(paths, filepath.Join("../impl", e.Name()))
		}
	}
	if len(paths) == 0 {
		t.Fatal("there is no program")
	}
	return paths
}

func checkImports(t *testing.T, path string, file *ast.File) {
	t.Helper()
	for _, i := range file.Imports {
		name, err := strconv.Unquote(i.Path.Value)
		if err != nil {
			t.Fatal(err)
		}
		if !strings.HasPrefix(name, module+"/") && !slices.Contains(allowedImports(), name) {
			t.Errorf("%s imports %s", path, name)
		}
	}
}

func checkLengths(t *testing.T, path string, set *token.FileSet, file *ast.File) {
	t.Helper()
	for _, d := range file.Decls {
		f, ok := d.(*ast.FuncDecl)
		if !ok {
			continue
		}
		if lines := set.Position(f.End()).Line - set.Position(f.Pos()).Line + 1; lines > mostLines {
			t.Errorf("%s: %s has %d lines", path, f.Name.Name, lines)
		}
	}
}

func TestSourcesKeepToTheLanguage(t *testing.T) {
	for _, path := range sources(t) {
		text, err := os.ReadFile(path)
		if err != nil {
			t.Fatal(err)
		}
		laidOut, err := format.Source(text)
		if err != nil {
			t.Fatal(err)
		}
		if !bytes.Equal(text, laidOut) {
			t.Errorf("%s does not have gofmt's layout", path)
		}
		if bytes.Contains(text, []byte("//go:")) || bytes.Contains(text, []byte("// +build")) {
			t.Errorf("%s has a line for the compiler", path)
		}
		set := token.NewFileSet()
		file, err := parser.ParseFile(set, path, text, parser.ParseComments)
		if err != nil {
			t.Fatal(err)
		}
		checkImports(t, path, file)
		checkLengths(t, path, set, file)
	}
}
