/- The parts Z7g of the proof, joined. It holds without conditions of its own. -/
import Derived.Test.YtciaofnkjgjeiacGreatDoorSM5
/- stemKnown_any, worked out by the machine: pieces. -/
namespace Go.Proofs.YtciaofnkjgjeiacGreatDoor
set_option linter.unusedSimpArgs false
set_option linter.unusedVariables false
open Go Go.RowKit
set_option maxRecDepth 10000
theorem z7P15 (t : TypeId) : stepsG Tryz.prog 100000 z7I 10 13 [0, 41, 43, 45, 47, 49, 50, 51, 146, 147, 305, 1802, 1803, 1804, 1805, 1806, 1892, 1894, 1895, 1896, 1897, 1898, 1899, 1900, 1901, 1902, 1903, 1904, 1905, 1906, 1909, 1910, 2012, 2065] (z7S15 t) = .ok (z7S16 t) := by kernel_rfl
theorem z7P16 (t : TypeId) : stepsG Tryz.prog 100000 z7I 10 12 [0, 41, 43, 45, 47, 49, 50, 51, 146, 147, 305, 1802, 1803, 1804, 1805, 1806, 1892, 1894, 1895, 1896, 1897, 1898, 1899, 1900, 1901, 1902, 1903, 1904, 1905, 1906, 1909, 1910, 2406] (z7S16 t) = .ok (z7S17 t) := by kernel_rfl
theorem z7P17 (t : TypeId) : stepsG Tryz.prog 100000 z7I 10 11 [0, 41, 43, 45, 47, 49, 50, 51, 146, 147, 305, 1802, 1803, 1804, 1805, 1806, 1892, 1894, 1895, 1896, 1897, 1898, 1899, 1900, 1901, 1902, 1903, 1904, 1905, 1906, 1909, 1910, 2546] (z7S17 t) = .ok (z7S18 t) := by kernel_rfl
end Go.Proofs.YtciaofnkjgjeiacGreatDoor
