// Package whole has the tests of what is promised over the layers, P0.1 to P0.5 of shared/DOC.md; nothing else is in it.
package whole
