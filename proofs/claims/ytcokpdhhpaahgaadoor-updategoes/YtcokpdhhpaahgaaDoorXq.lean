/-
  What may be kept, and which bytes it is: the document's RightMeta and MetaBytes; conditions: the digests are of 32 bytes, the numbers of 64 bits.
-/
import Derived.Test.YtcokpdhhpaahgaaDoorXa
import Derived.Test.YtcokpdhhpaahgaaDoorXb
import Derived.Test.YtcokpdhhpaahgaaDoorXc
import Derived.Test.YtcokpdhhpaahgaaDoorXs0
import Derived.Test.YtcokpdhhpaahgaaDoorXs1
namespace Go.Proofs.YtcokpdhhpaahgaaDoor
open Go.RowKit
set_option linter.unusedVariables false
set_option linter.unusedSimpArgs false

theorem right_no {m : Mt} (h : In m → False) : rightB m = false := by
  cases e : rightB m with
  | false => rfl
  | true => exact (h (right_in e)).elim
theorem right_rest {m : Mt} (n1 : ¬ m.act < 0) (n2 : ¬ 1 < m.act) (n3 : okI m.h0 = true) (n4 : okI m.h1 = true) (n5 : (m.own.ver == 0) = false) (n6 : ¬ m.least < 0) (n7 : ¬ 1073741824 < m.least) (n8 : ¬ m.gott < 0) (n9 : ¬ 6 < m.gott) (n10 : ¬ m.trials < 0) (n11 : ¬ 2 < m.trials) :
    rightB m = (okI m.com && fitB m) := by
  unfold rightB inB
  rw [decide_eq_true (show 0 ≤ m.act ∧ m.act ≤ 1 by omega), n3, n4, decide_eq_true (show m.own.ver ≠ 0 by simpa using n5), decide_eq_true (show 0 ≤ m.least ∧ m.least ≤ 1073741824 by omega), decide_eq_true (show 0 ≤ m.gott ∧ m.gott ≤ 6 by omega), decide_eq_true (show 0 ≤ m.trials ∧ m.trials ≤ 2 by omega)]
  simp
theorem docRight_any (m : Mt) (w : World) (hm : m.Ok) : Calls Tryd.prog 16 #[.agg m.cells] w fun e w' => e = .returned (.bool (rightB m)) ∧ Below w.heap.size w w' := by
  by_cases n1 : m.act < 0
  · rw [right_no (fun h => by have := h.act; omega)]; exact doc_not1 m w hm n1
  by_cases n2 : 1 < m.act
  · rw [right_no (fun h => by have := h.act; omega)]; exact doc_not2 m w hm n1 n2
  cases n3 : okI m.h0 with
  | false => rw [right_no (fun h => by rw [h.h0] at n3; cases n3)]; exact doc_not3 m w hm n1 n2 n3
  | true =>
    cases n4 : okI m.h1 with
    | false => rw [right_no (fun h => by rw [h.h1] at n4; cases n4)]; exact doc_not4 m w hm n1 n2 n3 n4
    | true =>
      cases n5 : (m.own.ver == 0) with
      | true => rw [right_no (fun h => h.own (by simpa using n5))]; exact doc_not5 m w hm n1 n2 n3 n4 n5
      | false =>
        by_cases n6 : m.least < 0
        · rw [right_no (fun h => by have := h.least; omega)]; exact doc_not6 m w hm n1 n2 n3 n4 n5 n6
        by_cases n7 : 1073741824 < m.least
        · rw [right_no (fun h => by have := h.least; omega)]; exact doc_not7 m w hm n1 n2 n3 n4 n5 n6 n7
        by_cases n8 : m.gott < 0
        · rw [right_no (fun h => by have := h.gott; omega)]; exact doc_not8 m w hm n1 n2 n3 n4 n5 n6 n7 n8
        by_cases n9 : 6 < m.gott
        · rw [right_no (fun h => by have := h.gott; omega)]; exact doc_not9 m w hm n1 n2 n3 n4 n5 n6 n7 n8 n9
        by_cases n10 : m.trials < 0
        · rw [right_no (fun h => by have := h.trials; omega)]; exact doc_not10 m w hm n1 n2 n3 n4 n5 n6 n7 n8 n9 n10
        by_cases n11 : 2 < m.trials
        · rw [right_no (fun h => by have := h.trials; omega)]; exact doc_not11 m w hm n1 n2 n3 n4 n5 n6 n7 n8 n9 n10 n11
        rw [right_rest n1 n2 n3 n4 n5 n6 n7 n8 n9 n10 n11]
        by_cases ha : m.act = 0
        · exact doc0_any m w hm ha n3 n4 n5 n6 n7 n8 n9 n10 n11
        · exact doc1_any m w hm (by omega) n3 n4 n5 n6 n7 n8 n9 n10 n11
theorem nil_gives' {w w' : World} (hb : Below w.heap.size w w') : Gives 0 [] w (.returned (.slice none 0 0)) w' := ⟨_, rfl, own_nil _ _, hb⟩
theorem built61 : Tryd.prog.built 75 [] = some #[.slice none 0 0] := by kernel_rfl
end Go.Proofs.YtcokpdhhpaahgaaDoor
