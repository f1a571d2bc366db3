/- The parts Z7h, Z7i of the proof, joined. It holds without conditions of its own. -/
import Derived.Test.YtciaofnkjgjeiacGreatDoorSM5
/- stemKnown_any, worked out by the machine: pieces. -/
namespace Go.Proofs.YtciaofnkjgjeiacGreatDoor
set_option linter.unusedSimpArgs false
set_option linter.unusedVariables false
open Go Go.RowKit
set_option maxRecDepth 10000
theorem z7P18 (t : TypeId) : stepsG Tryz.prog 100000 z7I 10 10 [0, 41, 43, 45, 47, 49, 50, 51, 146, 147, 305, 1802, 1803, 1804, 1805, 1806, 1892, 1894, 1895, 1896, 1897, 1898, 1899, 1900, 1901, 1902, 1903, 1904, 1905, 1906, 1909, 1910, 2546] (z7S18 t) = .ok (z7S19 t) := by kernel_rfl
theorem z7P19 (t : TypeId) : stepsG Tryz.prog 100000 z7I 10 12 [0, 41, 43, 45, 47, 49, 50, 51, 146, 147, 305, 1802, 1803, 1804, 1805, 1806, 1892, 1894, 1895, 1896, 1897, 1898, 1899, 1900, 1901, 1902, 1903, 1904, 1905, 1906, 1909, 1910, 2546] (z7S19 t) = .ok (z7S20 t) := by kernel_rfl
theorem z7P20 (t : TypeId) : stepsG Tryz.prog 100000 z7I 10 13 [0, 41, 43, 45, 47, 49, 50, 51, 146, 147, 305, 1802, 1803, 1804, 1805, 1806, 1892, 1894, 1895, 1896, 1897, 1898, 1899, 1900, 1901, 1902, 1903, 1904, 1905, 1906, 1909, 1910, 2546] (z7S20 t) = .ok (z7S21 t) := by kernel_rfl
end Go.Proofs.YtciaofnkjgjeiacGreatDoor

/- stemKnown_any, worked out by the machine: pieces. -/
namespace Go.Proofs.YtciaofnkjgjeiacGreatDoor
set_option linter.unusedSimpArgs false
set_option linter.unusedVariables false
open Go Go.RowKit
set_option maxRecDepth 10000
theorem z7P21 (t : TypeId) : stepsG Tryz.prog 100000 z7I 10 13 [0, 41, 43, 45, 47, 49, 50, 51, 146, 147, 305, 3172, 3355, 3358, 3359] (z7S21 t) = .ok (z7S22 t) := by kernel_rfl
theorem z7P23 (t : TypeId) : stepsG Tryz.prog 100000 z7I 10 12 [0] (z7S23 t) = .ok (z7S24 t) := by kernel_rfl
end Go.Proofs.YtciaofnkjgjeiacGreatDoor
