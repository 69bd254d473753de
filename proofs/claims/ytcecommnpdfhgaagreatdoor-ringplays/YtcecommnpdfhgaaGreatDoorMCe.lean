/-
  Several texts in one: CeOwn, CeRd, CeWr, CeWn, CeWb, CeRn, CeLive, CeRw, CeRx, CeDuPut, CeDuGet, CeCput, CeCget; each says its own conditions.
-/
import Derived.Test.YtcecommnpdfhgaaGreatDoorRows
import Derived.Test.YtcecommnpdfhgaaGreatDoorCePlain
import Derived.Test.YtcecommnpdfhgaaGreatDoorNew
import Derived.WalkKit
import Derived.WalkSmall
import Derived.Lib.Hide
import Derived.LoopTactic
import Derived.Laws.BytesArg
import Derived.Laws.Rows
import Derived.Below
import Derived.Deep.Draws
import Derived.Laws.CopyOwn
import Derived.Maps.AppendAt
import Derived.OwnWalk
import Derived.OpenShut
import Derived.Lib.SlBytesConst
import Derived.Deep.RegionLaw
import Derived.Test.YtcecommnpdfhgaaGreatDoorCeDuPlain
import Derived.Test.YtcecommnpdfhgaaGreatDoorCeCp
namespace Go.Proofs.YtcecommnpdfhgaaGreatDoor
open Go.RowKit
set_option linter.unusedVariables false
set_option linter.unusedSimpArgs false

/-- A row of bytes as a text. -/
theorem conv_row {w : World} {a : Option Addr} {n c : Nat} {zs : List Int} (h : Row w a n zs) : (convert 34 9 (.slice a n c)).run Tryz.prog w = .ok (.string (strOfNums zs)) w := by
  by_cases hn : 0 < n
  · obtain ⟨b, off, rfl, _, hc⟩ := row_open h hn
    exact run_convert_bytes_arg w 34 5 Tryz.underlying34 Tryz.underlying5 b off n c zs h.1 hc 9 Tryz.underlying9
  · obtain rfl : n = 0 := by omega
    obtain rfl : zs = [] := List.eq_nil_of_length_eq_zero h.1
    cases a with
    | none => exact run_convert_bytes_nil w 34 5 Tryz.underlying34 Tryz.underlying5 0 c 9 Tryz.underlying9
    | some ad =>
      have hl : (loadCells ad 0).run Tryz.prog w = .ok (([] : List Int).map (Value.int .u8)).toArray w := run_loadCells_list (P := Tryz.prog) w ad [] (fun j v hj => by simp at hj)
      rw [run_convert_bytes_string w 34 9 5 _ 0 c Tryz.underlying34 Tryz.underlying5 Tryz.underlying9, run_bytesToString w _ 0 c [] hl]
      rfl
theorem str_same {xs ys : List Int} (hx : Byt xs) (hy : Byt ys) : strOfNums xs = strOfNums ys ↔ xs = ys := by
  constructor
  · intro h
    have h2 : xs.map (fun n => UInt8.ofNat n.toNat) = ys.map (fun n => UInt8.ofNat n.toNat) := by rw [← strOfNums_data, ← strOfNums_data, h]
    have hl : xs.length = ys.length := by simpa using congrArg List.length h2
    refine List.ext_getElem hl fun i h3 h4 => ?_
    have h5 := congrArg (fun l => (l[i]?).map UInt8.toNat) h2
    simp only [List.getElem?_map, List.getElem?_eq_getElem h3, List.getElem?_eq_getElem h4, Option.map_some, Option.some.injEq, UInt8.toNat_ofNat'] at h5
    have b1 := hx _ (List.getElem_mem h3)
    have b2 := hy _ (List.getElem_mem h4)
    omega
  · rintro rfl
    rfl
theorem ce_make_bytes (kl kc : IntKind) (l c : Nat) (hlc : l ≤ c) (hc : c ≤ 1000000) (w : World) : (Instr.makeSlice 34 (.int kl (l : Int)) (.int kc (c : Int))).run Tryz.prog w = .ok (.slice (some ⟨w.heap.size, 0, none⟩) l c) (w.alloc (.cells (zeroBytes c) 5)) := by
  obtain ⟨i, hi, hz0, hz1, hz2⟩ := info_parts info5
  have h := run_make (P := Tryz.prog) w 34 5 i (.int .u8 0) Tryz.underlying34 hi hz0 kl kc l c (by omega) (by omega) (by rw [hz2]; omega) (by omega)
  rw [h, hz1]
  have e : madeCells (Value.int .u8 0).cells (((c : Int)).toNat * 1) = zeroBytes c := by
    unfold zeroBytes
    apply Array.ext'
    rw [show (Value.int .u8 0).cells = #[Value.int .u8 0] from rfl, toList_madeCells_one]
    simp [nums]
  rw [e]
  simp
theorem own_made (w : World) (base c : Nat) (hc : c ≤ 1000000) (hb : base ≤ w.heap.size) : Own (w.alloc (.cells (zeroBytes c) 5)) base (.slice (some ⟨w.heap.size, 0, none⟩) 0 c) 0 [] := by
  refine ⟨⟨by simp [nums], .inr ⟨w.heap.size, c, zeroBytes c, rfl, hb, heap_alloc_new w _, by omega, by unfold maxLen; omega, by simp [zeroBytes, nums], by simp [nums]⟩⟩, fun n hn => by simp at hn⟩
/-- A call answers a new row. -/
def CeGives (n : Nat) (zs : List Int) (w : World) (e : Ending) (w' : World) : Prop := ∃ v, e = .returned v ∧ Own w' w.heap.size v n zs ∧ Below w.heap.size w w'
theorem row_two (w : World) {x y : Int} (hx : 0 ≤ x ∧ x ≤ 255) (hy : 0 ≤ y ∧ y ≤ 255) : Row (w.alloc (.cells #[.int .u8 x, .int .u8 y] 5)) (some ⟨w.heap.size, 0, none⟩) 2 [x, y] := row_text w [x, y] (byt_two hx hy) 2 rfl (0, 0)
theorem row_one (w : World) {x : Int} (hx : 0 ≤ x ∧ x ≤ 255) : Row (w.alloc (.cells #[.int .u8 x] 5)) (some ⟨w.heap.size, 0, none⟩) 1 [x] := row_text w [x] (ce_byt_one hx) 1 rfl (0, 0)
theorem nums_at {L : List Int} {j : Nat} (h : j < L.length) : (nums L).toArray[j]? = some (.int .u8 (L.getD j 0)) := by
  simp only [nums, List.getElem?_toArray, List.getElem?_map, List.getD_eq_getElem?_getD]
  rw [List.getElem?_eq_getElem h]
  rfl
theorem has_at {w : World} {G : Nat} {L : List Int} (h : Has w G 5 (nums L).toArray) {j : Nat} (hj : j < L.length) : w.cell? ⟨G, j, none⟩ = some (.int .u8 (L.getD j 0)) := by rw [h.at, nums_at hj]
theorem has_set {w : World} {G : Nat} {L : List Int} (h : Has w G 5 (nums L).toArray) (j : Nat) (y : Int) : Has (w.setCell ⟨G, j, none⟩ (.int .u8 y)) G 5 (nums (L.set j y)).toArray := by
  have := h.put j (.int .u8 y)
  rwa [show (nums L).toArray.setIfInBounds j (.int .u8 y) = (nums (L.set j y)).toArray by simp [nums, List.map_set]] at this
theorem has_row {w : World} {G : Nat} {L : List Int} (h : Has w G 5 (nums L).toArray) (hb : Byt L) : Row w (some ⟨G, 0, none⟩) L.length L :=
  row_mk rfl hb h.size (fun j hj => by rw [Nat.zero_add]; exact has_at h hj)
theorem belowThen {w w1 w2 : World} (h : Below w.heap.size w w1) (h2 : Below w1.heap.size w1 w2) : Below w.heap.size w w2 := h.trans (h2.mono h.size)
/-- A row that a call made, laid open: its block. -/
theorem own_block {w : World} {base : Nat} {v : Value} {n : Nat} {zs : List Int} (h : Own w base v n zs) (hn : 0 < n) : ∃ g cap cur, v = .slice (some ⟨g, 0, none⟩) n cap ∧ base ≤ g ∧ Has w g 5 cur ∧ n ≤ cap ∧ cur.toList.take n = nums zs ∧ ∀ j, j < n → w.cell? ⟨g, j, none⟩ = some (.int .u8 (zs.getD j 0)) := by
  have hl := h.len
  rcases h.1.2 with ⟨_, e⟩ | ⟨g, cap, cur, e1, e2, e3, e4, e5, e6, e7⟩
  · omega
  · have e7' : cur.toList.take n = nums zs := by simpa using e7
    refine ⟨g, cap, cur, e1, e2, e3, e4, e7', fun j hj => ?_⟩
    rw [cell_of_row w g j cur 5 (0, 0) e3]
    have q1 : cur[j]? = (cur.toList.take n)[j]? := by rw [List.getElem?_take, if_pos hj]; simp
    rw [q1, e7']
    simp only [nums, List.getElem?_map, List.getD_eq_getElem?_getD]
    rw [List.getElem?_eq_getElem (by omega)]
    rfl
/-- An append of a drawn region whose run is known. -/
theorem step_run {w : World} {ops : Array Oper} {o : Oper} {a : Act} {K : Act → World → Prop} {Q : Exit → Act → World → Prop} {E : Prop} (hw : Region.wanted o (yielded ops a.tmps) = true) (s x : Operand)
    (ho : o.op = .call { callee := .builtin .append, args := #[s, x], argTypes := #[34, 34] }) (t : TypeId) (hty : o.type = t) (v u v' : Value) (hs : a.eval s = v) (hx : a.eval x = u) {w' : World}
    (hrun : (Builtin.append_ #[34, 34] t #[v, u]).run Tryz.prog w = .ok v' w') (h : K (a.put o.dst v') w') :
    if Region.wanted o (yielded ops a.tmps) = true then Oper.wp Tryz.prog o a w K Q else E := by
  rw [if_pos hw]
  unfold Oper.wp execOp
  simp only [ho, hty, resolve, invoke, builtin, Sem.run_bind, Sem.run_pure, Result.andThen_ok, List.map_toArray, List.map_cons, List.map_nil, hs, hx, hrun]
  exact h
end Go.Proofs.YtcecommnpdfhgaaGreatDoor

namespace Go.Proofs.YtcecommnpdfhgaaGreatDoor
open Go.RowKit
set_option linter.unusedVariables false
set_option linter.unusedSimpArgs false

theorem ce_cut_any (s : Int) (m : Nat) (w : World) : Calls Tryz.prog 102 #[.int .i64 s, .int .i64 (m : Int)] w fun e w' => e = .returned (.int .i64 (cutN s m : Int)) ∧ w = w' := by
  by_cases h0 : s < 0
  · rw [cut_low h0]
    have e1 : max s 0 = 0 := by omega
    have e2 : min (0 : Int) (m : Int) = 0 := by omega
    go_enter Tryz.func102, Tryz.ntmps102
    go_wp2
    go_ret
    exact ⟨rfl, rfl⟩
  · by_cases h1 : (m : Int) < s
    · rw [cut_high h1]
      go_enter Tryz.func102, Tryz.ntmps102
      go_wp2
      go_ret
      exact ⟨rfl, rfl⟩
    · rw [cut_mid (by omega) (by omega)]
      go_enter Tryz.func102, Tryz.ntmps102
      go_wp2
      go_ret
      exact ⟨rfl, rfl⟩
theorem ce_rcut_any (s : Int) (m : Nat) (w : World) : Calls Tryz.prog 29 #[.int .i64 s, .int .i64 0, .int .i64 (m : Int)] w fun e w' => e = .returned (.int .i64 (cutN s m : Int)) ∧ w = w' := by
  by_cases h0 : s < 0
  · rw [cut_low h0]
    go_enter Tryz.func29, Tryz.ntmps29
    go_wp2
    go_ret
    exact ⟨rfl, rfl⟩
  · by_cases h1 : (m : Int) < s
    · rw [cut_high h1]
      go_enter Tryz.func29, Tryz.ntmps29
      go_wp2
      go_ret
      exact ⟨rfl, rfl⟩
    · rw [cut_mid (by omega) (by omega)]
      go_enter Tryz.func29, Tryz.ntmps29
      go_wp2
      go_ret
      exact ⟨rfl, rfl⟩
theorem cut1000 (s : Int) (w : World) : Calls Tryz.prog 102 #[.int .i64 s, .int .i64 1000] w fun e w' => e = .returned (.int .i64 (cutN s 1000 : Int)) ∧ w = w' := ce_cut_any s 1000 w
theorem cut8 (s : Int) (w : World) : Calls Tryz.prog 102 #[.int .i64 s, .int .i64 8] w fun e w' => e = .returned (.int .i64 (cutN s 8 : Int)) ∧ w = w' := ce_cut_any s 8 w
theorem rcut1000 (s : Int) (w : World) : Calls Tryz.prog 29 #[.int .i64 s, .int .i64 0, .int .i64 1000] w fun e w' => e = .returned (.int .i64 (cutN s 1000 : Int)) ∧ w = w' := ce_rcut_any s 1000 w
theorem rcut8 (s : Int) (w : World) : Calls Tryz.prog 29 #[.int .i64 s, .int .i64 0, .int .i64 8] w fun e w' => e = .returned (.int .i64 (cutN s 8 : Int)) ∧ w = w' := ce_rcut_any s 8 w
set_option maxRecDepth 100000 in
theorem clone_any (A : Option Addr) (n c : Nat) (zs : List Int) (w : World) (hr : Row w A n zs) (hn : n ≤ 1000000) : Calls Tryz.prog 121 #[.slice A n c] w (CeGives n zs w) := by
  cases A with
  | none =>
    obtain rfl := row_none hr rfl
    obtain rfl : zs = [] := List.eq_nil_of_length_eq_zero hr.1
    have he : ∀ w : World, (binOp .eql 34 (.slice none 0 c) (.slice none 0 0)).run Tryz.prog w = .ok (.bool true) w := fun _ => rfl
    go_enter Tryz.func121, Tryz.ntmps121
    go_wp2
    go_ret
    exact ⟨_, rfl, own_nil _ _, Below.refl _ _⟩
  | some x =>
    have hb0 : Below w.heap.size w (w.alloc (.cells #[] 5)) := (Below.refl _ w).alloc (Nat.le_refl _) _
    have ho : Own (w.alloc (.cells #[] 5)) w.heap.size (.slice (some ⟨w.heap.size, 0, none⟩) 0 0) 0 [] := own_lit w w.heap.size [] byt_nil 0 rfl (Nat.zero_le _) (Nat.le_refl _)
    have hr1 := row_below hb0 hr
    have hsz := hb0.size
    have he : ∀ w : World, (binOp .eql 34 (.slice (some x) n c) (.slice none 0 0)).run Tryz.prog w = .ok (.bool false) w := fun _ => rfl
    go_enter Tryz.func121, Tryz.ntmps121
    go_wp2_with (at_builtin; (with_reducible refine wpList_app rfl _ _ rfl w.heap.size (.slice (some ⟨w.heap.size, 0, none⟩) 0 0) 0 [] rfl ho _ _ _ zs rfl hr1 (row_none hr1) (by omega) hsz ?_); intro v' w' h3 h4)
    rw [Nat.zero_add] at h3
    go_ret
    exact ⟨_, rfl, h3, below_own hb0 ho h4 (Nat.le_refl _) hsz⟩

theorem add_block (a : Addr) (k : Nat) : (a.add k).block = a.block := by unfold Addr.add; split <;> rfl
theorem addr_add (b off k : Nat) : (⟨b, off, none⟩ : Addr).add k = ⟨b, off + k, none⟩ := by unfold Addr.add; split <;> simp_all
theorem size5 : (Tryz.prog.info? 5).map (·.size) = some 1 := by kernel_rfl
theorem elem29 : Tryz.prog.elem 34 = 5 := by kernel_rfl
theorem run_from (w : World) (A : Option Addr) (n c : Nat) (k : IntKind) (K : Nat) (hK : K ≤ n) (hnc : n ≤ c) : (Instr.sliceAt 34 (.slice A n c) (some (.int k (K : Int))) none none).run Tryz.prog w = .ok (sliced A K n c 1) w := by
  obtain ⟨i, hi, hsz⟩ := Option.map_eq_some_iff.1 size5
  have hu : Tryz.prog.underlying 34 = some (.slice (Tryz.prog.elem 34)) := by rw [elem29]; exact Tryz.underlying34
  rw [run_sliceAt_slice w 34 _ _ _ _ hu, run_slice_l w 34 A n c hu k K (by omega) (by omega), elem29]
  simp [sizeOf, typeInfo, hi, hsz]
theorem run_upto (w : World) (A : Option Addr) (n c : Nat) (k : IntKind) (K : Nat) (hK : K ≤ c) : (Instr.sliceAt 34 (.slice A n c) none (some (.int k (K : Int))) none).run Tryz.prog w = .ok (sliced A 0 K c 1) w := by
  obtain ⟨i, hi, hsz⟩ := Option.map_eq_some_iff.1 size5
  have hu : Tryz.prog.underlying 34 = some (.slice (Tryz.prog.elem 34)) := by rw [elem29]; exact Tryz.underlying34
  rw [run_sliceAt_slice w 34 _ _ _ _ hu, run_slice_h w 34 A n c hu k K (by omega) (by omega), elem29]
  simp [sizeOf, typeInfo, hi, hsz]
/-- An address whose block lies below T, if there is one with cells. -/
def Lies (A : Option Addr) (n T : Nat) : Prop := 0 < n → ∀ x, A = some x → x.block < T
theorem lies_none (n T : Nat) : Lies none n T := fun _ x hx => by cases hx
theorem row_lies {w : World} {A : Option Addr} {n : Nat} {zs : List Int} (h : Row w A n zs) : Lies A n w.heap.size := by
  intro h0 x hx
  obtain ⟨b, off, e, hb, _⟩ := row_open h h0
  rw [e] at hx
  cases hx
  exact hb
/-- A row stays where nothing of its own block has turned. -/
theorem row_stays {w w' : World} {P : Nat → Prop} {a : Option Addr} {n : Nat} {zs : List Int} (h : Row w a n zs) (o : Only P w w') (hp : 0 < n → ∀ x, a = some x → ¬ P x.block) : Row w' a n zs := by
  by_cases h0 : 0 < n
  · exact row_keep h o (hp h0)
  · exact ⟨h.1, h.2.1, .inl (by omega)⟩
theorem row_under {w w' : World} {P : Nat → Prop} {a : Option Addr} {n T : Nat} {zs : List Int} (h : Row w a n zs) (hl : Lies a n T) (o : Only P w w') (hp : ∀ b, P b → T ≤ b) : Row w' a n zs :=
  row_stays h o fun h0 x hx hP => by have := hl h0 x hx; have := hp _ hP; omega
theorem row_cut {w : World} {A : Option Addr} {n c : Nat} {zs : List Int} {T : Nat} (hr : Row w A n zs) (hA : Lies A n T) (K : Nat) (hK : K ≤ n) (hnc : n ≤ c) :
    ∃ A', sliced A K n c 1 = .slice A' (n - K) (c - K) ∧ Row w A' (n - K) (zs.drop K) ∧ Lies A' (n - K) T := by
  refine ⟨_, rfl, ?_, ?_⟩
  · by_cases h0 : n = K
    · exact ⟨by rw [List.length_drop, hr.1], byt_drop hr.2.1 _, .inl (by omega)⟩
    · rw [if_neg (by omega)]
      obtain ⟨b, off, rfl, hw, hc⟩ := row_open hr (by omega)
      have e : (some (⟨b, off, none⟩ : Addr)).map (·.add (K * 1)) = some ⟨b, off + K, none⟩ := by rw [Option.map_some, addr_add, Nat.mul_one]
      rw [e]
      exact row_from hr K (by omega)
  · intro h0 x hx
    split at hx
    · exact hA (by omega) x hx
    · obtain ⟨y, hy, rfl⟩ := Option.map_eq_some_iff.1 hx
      rw [add_block]
      exact hA (by omega) y hy
theorem row_head {w : World} {A : Option Addr} {n c : Nat} {zs : List Int} {T : Nat} (hr : Row w A n zs) (hA : Lies A n T) (K : Nat) (hK : K ≤ n) (hnc : n ≤ c) :
    ∃ A', sliced A 0 K c 1 = .slice A' K c ∧ Row w A' K (zs.take K) ∧ Lies A' K T := by
  refine ⟨_, rfl, ?_, ?_⟩
  · have h := row_upto hr K hK
    by_cases h0 : K = 0
    · exact ⟨h.1, h.2.1, .inl h0⟩
    · rw [if_neg (by omega)]
      obtain ⟨b, off, rfl, hw, hc⟩ := row_open hr (by omega)
      have e : (some (⟨b, off, none⟩ : Addr)).map (·.add (0 * 1)) = some ⟨b, off, none⟩ := by rw [Option.map_some, addr_add]; simp
      rw [e]
      exact h
  · intro h0 x hx
    split at hx
    · exact hA (by omega) x hx
    · obtain ⟨y, hy, rfl⟩ := Option.map_eq_some_iff.1 hx
      rw [add_block]
      exact hA (by omega) y hy

/-- The program's reader at block p, its row below block T. -/
def Rd (w : World) (p T : Nat) (S : Rs) : Prop :=
  S.Ok ∧ T ≤ p ∧ S.rest.length ≤ 1000000 ∧ ∃ A c, Has w p 155 #[.slice A S.rest.length c, .bool S.bad] ∧ Row w A S.rest.length S.rest ∧ S.rest.length ≤ c ∧ Lies A S.rest.length T
/-- The document's reader. -/
def Rr (w : World) (p T : Nat) (S : Rs) : Prop :=
  S.Ok ∧ T ≤ p ∧ S.rest.length ≤ 1000000 ∧ ∃ A n c zs, Has w p 157 #[.slice A n c, .bool S.bad] ∧ Row w A n zs ∧ n ≤ c ∧ Lies A n T ∧ (S.bad = false → zs = S.rest)
theorem Rd.only {w w' : World} {p T : Nat} {S : Rs} {P : Nat → Prop} (h : Rd w p T S) (o : Only P w w') (hp : ∀ b, P b → T ≤ b ∧ b ≠ p) : Rd w' p T S := by
  obtain ⟨h1, h2, h3, A, c, h4, h5, h6, h7⟩ := h
  exact ⟨h1, h2, h3, A, c, h4.only o (fun x => (hp _ x).2 rfl), row_under h5 h7 o (fun b hb => (hp b hb).1), h6, h7⟩
theorem Rr.only {w w' : World} {p T : Nat} {S : Rs} {P : Nat → Prop} (h : Rr w p T S) (o : Only P w w') (hp : ∀ b, P b → T ≤ b ∧ b ≠ p) : Rr w' p T S := by
  obtain ⟨h1, h2, h3, A, n, c, zs, h4, h5, h6, h7, h8⟩ := h
  exact ⟨h1, h2, h3, A, n, c, zs, h4.only o (fun x => (hp _ x).2 rfl), row_under h5 h7 o (fun b hb => (hp b hb).1), h6, h7, h8⟩
/-- What a reader's call leaves: only the reader itself may have turned. -/
def RdTo (p T : Nat) (S : Rs) (w w' : World) : Prop := Rd w' p T S ∧ Only (fun b => b = p) w w'
def RrTo (p T : Nat) (S : Rs) (w w' : World) : Prop := Rr w' p T S ∧ Only (fun b => b = p) w w'
/-- What take answers. -/
def Took (S : Rs) (p T k : Nat) (w : World) (e : Ending) (w' : World) : Prop := ∃ A c, e = .returned (.slice A (got S k).length c) ∧ Row w' A (got S k).length (got S k) ∧ RdTo p T (aft S k) w w'
set_option maxRecDepth 100000 in
theorem take_any {p T : Nat} {S : Rs} (k : Nat) (w : World) (hS : Rd w p T S) (hk : k ≤ 1000) : Calls Tryz.prog 122 #[.pointer (some ⟨p, 0, none⟩), .int .i64 (k : Int)] w (Took S p T k w) := by
  obtain ⟨hok, hT, hle, A, c, hh, hr, hc, hA⟩ := hS
  have q0 : w.cell? ⟨p, 0, none⟩ = some (.slice A S.rest.length c) := hh.at 0
  have q1 : w.cell? ⟨p, 1, none⟩ = some (.bool S.bad) := hh.at 1
  have f0 := hh.soft 0
  have f1 := hh.soft 1
  have o1 : Only (fun b => b = p) w (w.setCell ⟨p, 0, none⟩ (.slice none 0 0)) := (Only.refl (fun b => b = p) w).setCell rfl _
  by_cases hlt : S.rest.length < k
  · have HE := Lib.hid (show Took S p T k w (.returned (.slice none 0 0)) ((w.setCell ⟨p, 0, none⟩ (.slice none 0 0)).setCell ⟨p, 1, none⟩ (.bool true)) by
      refine ⟨none, 0, by rw [got_short hlt]; rfl, by rw [got_short hlt]; exact row_nil _, ?_, o1.setCell rfl _⟩
      rw [aft_short hlt]
      exact ⟨⟨byt_nil, fun _ => rfl⟩, hT, by simp, none, 0, (hh.put 0 _).put 1 _, row_nil _, Nat.le_refl _, lies_none _ _⟩)
    go_enter Tryz.func122, Tryz.ntmps122
    go_wp2
    go_ret
    exact HE.out
  · have hkn : k ≤ S.rest.length := by omega
    obtain ⟨A1, e1, r1, l1⟩ := row_head hr hA k hkn hc
    obtain ⟨A2, e2, r2, l2⟩ := row_cut hr hA k hkn hc
    have R1 := run_upto w A S.rest.length c .i64 k (by omega)
    have R2 := run_from w A S.rest.length c .i64 k hkn hc
    rw [e1] at R1
    rw [e2] at R2
    have o2 : Only (fun b => b = p) w (w.setCell ⟨p, 0, none⟩ (.slice A2 (S.rest.length - k) (c - k))) := (Only.refl (fun b => b = p) w).setCell rfl _
    have HE := Lib.hid (show Took S p T k w (.returned (.slice A1 k c)) (w.setCell ⟨p, 0, none⟩ (.slice A2 (S.rest.length - k) (c - k))) by
      have hr1 := row_under r1 l1 o2 (fun b e => by omega)
      have hr2 := row_under r2 l2 o2 (fun b e => by omega)
      have hput := hh.put 0 (.slice A2 (S.rest.length - k) (c - k))
      cases hb : S.bad with
      | false =>
        have hg := got_yes hb hkn
        have ha := aft_yes hb hkn
        have hl1 : (S.rest.take k).length = k := by rw [List.length_take]; omega
        have hl2 : (S.rest.drop k).length = S.rest.length - k := List.length_drop ..
        refine ⟨A1, c, by rw [hg, hl1], by rw [hg, hl1]; exact hr1, ?_, o2⟩
        rw [ha]
        refine ⟨⟨byt_drop hok.1 _, fun h => by cases h⟩, hT, by simp only []; omega, A2, c - k, ?_, by simp only []; rw [hl2]; exact hr2, by simp only []; omega, by simp only [hl2]; exact l2⟩
        simp only [hl2]
        rw [hb] at hput
        exact hput
      | true =>
        have h0 := hok.2 hb
        obtain rfl : k = 0 := by rw [h0] at hkn; simpa using hkn
        have hl0 : S.rest.length - 0 = 0 := by rw [h0]; rfl
        generalize w.setCell ⟨p, 0, none⟩ (.slice A2 (S.rest.length - 0) (c - 0)) = W at *
        rw [hb, hl0] at hput
        refine ⟨A1, c, by rw [got_bad hb]; rfl, by rw [got_bad hb]; exact ⟨rfl, byt_nil, .inl rfl⟩, ?_, o2⟩
        rw [aft_bad hb]
        exact ⟨⟨byt_nil, fun _ => rfl⟩, hT, by simp, A2, c - 0, hput, ⟨rfl, byt_nil, .inl rfl⟩, Nat.zero_le _, fun h => absurd h (by simp)⟩)
    clear hr hA hc hok hT r1 r2 l1 l2 o1 o2 e1 e2 hh
    go_enter Tryz.func122, Tryz.ntmps122
    go_wp2
    go_ret
    exact HE.out
theorem newReader_any (A : Option Addr) (n c : Nat) (zs : List Int) (w : World) (hr : Row w A n zs) (hn : n ≤ 1000000) :
    Calls Tryz.prog 95 #[.slice A n c] w fun e w' => ∃ p, e = .returned (.pointer (some ⟨p, 0, none⟩)) ∧ w.heap.size ≤ p ∧ Rd w' p p ⟨zs, false⟩ ∧ Below w.heap.size w w' := by
  have HC := Lib.hid (clone_any A n c zs w hr hn)
  have HZ := Lib.hid hr.2.1
  have HL := Lib.hid hr.1
  clear hr
  go_enter Tryz.func95, Tryz.ntmps95
  go_wp2_with (go_at_call 121; (with_reducible refine HC.out.mono ?_); rintro e w1 ⟨v, rfl, ho, hb⟩; obtain ⟨A1, c1, rfl, hc1, hr1, hk1⟩ := ho.form)
  have hb2 : Below w.heap.size w (w1.alloc (.cells #[.slice A1 n c1, .bool false] 155)) := hb.alloc hb.size _
  have hl := HL.out
  go_ret
  exact ⟨w1.heap.size, rfl, hb.size, ⟨⟨HZ.out, fun h => by cases h⟩, Nat.le_refl _, by simp only []; omega, A1, c1, by simp only [hl]; exact has_new _ _ _, by simp only [hl]; exact row_below ((Below.refl _ _).alloc (Nat.le_refl _) _) hr1, by simp only [hl]; exact hc1, fun _ x hx => (hk1 x hx).2⟩, hb2⟩
/-- What Raw answers. -/
def GivesR (zs : List Int) (w : World) (X : World → Prop) (e : Ending) (w' : World) : Prop := ∃ v, e = .returned v ∧ Own w' w.heap.size v zs.length zs ∧ X w'
set_option maxRecDepth 100000 in
theorem raw_any {p T : Nat} {S : Rs} (s : Int) (w : World) (hS : Rd w p T S) : Calls Tryz.prog 97 #[.pointer (some ⟨p, 0, none⟩), .int .i64 s] w (GivesR (got S (cutN s 1000)) w (RdTo p T (aft S (cutN s 1000)) w)) := by
  have HC := Lib.hid (cut1000 s w)
  have HT := Lib.hid (take_any (cutN s 1000) w hS (cut_le _ _))
  have hgl := got_len S (cutN s 1000)
  have hcl := cut_le s 1000
  have hp : p < w.heap.size := by obtain ⟨_, _, _, _, _, hh, _⟩ := hS; exact hh.size
  have hTp : T ≤ p := hS.2.1
  clear hS
  generalize cutN s 1000 = k at *
  go_enter Tryz.func97, Tryz.ntmps97
  go_wp2_with (first
    | (go_at_call 102; (with_reducible refine HC.out.mono ?_); rintro e w1 ⟨rfl, rfl⟩)
    | (go_at_call 122; (with_reducible refine HT.out.mono ?_); rintro e w1 ⟨A1, c1, rfl, hr1, hrd, ho1⟩)
    | (go_at_call 121; (with_reducible refine (clone_any A1 _ c1 _ w1 hr1 (by omega)).mono ?_); rintro e w2 ⟨v, rfl, ho, hb⟩))
  go_ret
  exact ⟨v, rfl, ho.lower ho1.size, hrd.only (P := fun _ => False) (Only.of_below hb) (fun b hb => hb.elim), ho1.below hb⟩
end Go.Proofs.YtcecommnpdfhgaaGreatDoor

namespace Go.Proofs.YtcecommnpdfhgaaGreatDoor
open Go.RowKit
set_option linter.unusedVariables false
set_option linter.unusedSimpArgs false

/-- copy(d, s), d a part of a block that is known whole. -/
theorem runs_cp (w : World) (ty : TypeId) (k g off dLen dCap : Nat) (A : Option Addr) (m c : Nat) (ys : List Int) (hr : Row w A m ys) (hk : Nat.min m dLen = k) (cur : Array Value) (t : TypeId) (hg : Has w g t cur) (hfit : off + k ≤ cur.size) :
    (Builtin.copy_ #[34, 34] ty #[.slice (some ⟨g, off, none⟩) dLen dCap, .slice A m c]).run Tryz.prog w = .ok (goInt (k : Int)) (w.setRow g (cur.toList.take off ++ (nums (ys.take k) ++ cur.toList.drop (off + k))).toArray) := by
  subst hk
  have hl : (ys.take (Nat.min m dLen)).length = Nat.min m dLen := by
    rw [List.length_take, hr.1]; exact Nat.min_eq_left (Nat.min_le_left _ _)
  by_cases h0 : Nat.min m dLen = 0
  · have hrun := run_copy_none (P := Tryz.prog) w 34 34 ty 5 (some ⟨g, off, none⟩) A dLen dCap m c Tryz.underlying34 (by kernel_rfl) h0
    have e : (cur.toList.take off ++ (nums (ys.take 0) ++ cur.toList.drop (off + 0))).toArray = cur := by simp [nums]
    rw [h0, e, setRow_self w g cur t (0, 0) hg]
    exact hrun
  · have hm : Nat.min m dLen ≤ m := Nat.min_le_left _ _
    have hr2 := row_upto hr (Nat.min m dLen) hm
    obtain ⟨b, off2, rfl, _, _⟩ := row_open hr2 (by omega)
    have hrun := run_copy_row (P := Tryz.prog) w 34 34 ty 5 g off dLen dCap ⟨b, off2, none⟩ m c cur t (nums (ys.take (Nat.min m dLen))) Tryz.underlying34 (by kernel_rfl) hg (by rw [nums_len, hl]) (row_cells hr2) (by rw [nums_len, hl]; exact hfit) (nums_one _)
    rw [nums_len, hl, List.append_assoc] at hrun
    exact hrun

/-- Blocks of P, and those that are new. -/
def Plus (P : Nat → Prop) (w w' : World) (b : Nat) : Prop := P b ∨ (w.heap.size ≤ b ∧ b < w'.heap.size)
/-- Bytes of pieces, the newest first. -/
def joined : List (List Int) → List Int
  | [] => []
  | ys :: L => joined L ++ ys
/-- The pieces behind a pointer, in blocks of P. -/
def Chain (w : World) (P : Nat → Prop) : Option Addr → List (List Int) → Prop
  | q, [] => q = none
  | q, ys :: L => ∃ g q' A c, q = some ⟨g, 0, none⟩ ∧ P g ∧ Has w g 137 #[.pointer q', .slice A ys.length c] ∧ Row w A ys.length ys ∧ 0 < ys.length ∧ ys.length ≤ c ∧ (∀ x, A = some x → P x.block) ∧ Chain w P q' L
theorem Chain.mono {w : World} {P P' : Nat → Prop} (h : ∀ b, P b → P' b) : ∀ {L : List (List Int)} {q : Option Addr}, Chain w P q L → Chain w P' q L
  | [], _, hc => hc
  | _ :: _, _, ⟨g, q', A, c, h1, h2, h3, h4, h5, h6, h7, h8⟩ => ⟨g, q', A, c, h1, h _ h2, h3, h4, h5, h6, fun x hx => h _ (h7 x hx), Chain.mono h h8⟩
theorem Chain.only {w w' : World} {P X : Nat → Prop} (o : Only X w w') (h : ∀ b, X b → ¬ P b) : ∀ {L : List (List Int)} {q : Option Addr}, Chain w P q L → Chain w' P q L
  | [], _, hc => hc
  | _ :: _, _, ⟨g, q', A, c, h1, h2, h3, h4, h5, h6, h7, h8⟩ => ⟨g, q', A, c, h1, h2, h3.only o (fun x => h _ x h2), row_keep h4 o (fun x hx hX => h _ hX (h7 x hx)), h5, h6, h7, Chain.only o h h8⟩
/-- The program's writer at block p, its pieces in blocks of P. -/
def Wr (w : World) (p : Nat) (P : Nat → Prop) (zs : List Int) : Prop := Byt zs ∧ zs.length ≤ 1000000 ∧ ¬ P p ∧ ∃ q L, Has w p 106 #[.pointer q, .int .i64 (zs.length : Int)] ∧ Chain w P q L ∧ joined L = zs
theorem Wr.mono {w : World} {p : Nat} {P P' : Nat → Prop} {zs : List Int} (h : Wr w p P zs) (hP : ∀ b, P b → P' b) (hp : ¬ P' p) : Wr w p P' zs := by
  obtain ⟨h1, h2, h3, q, L, h4, h5, h6⟩ := h
  exact ⟨h1, h2, hp, q, L, h4, h5.mono hP, h6⟩
theorem Wr.only {w w' : World} {p : Nat} {P X : Nat → Prop} {zs : List Int} (h : Wr w p P zs) (o : Only X w w') (hX : ∀ b, X b → b ≠ p ∧ ¬ P b) : Wr w' p P zs := by
  obtain ⟨h1, h2, h3, q, L, h4, h5, h6⟩ := h
  exact ⟨h1, h2, h3, q, L, h4.only o (fun x => (hX _ x).1 rfl), h5.only o (fun b hb => (hX b hb).2), h6⟩
theorem Wr.kept {w w' : World} {p : Nat} {P : Nat → Prop} {zs : List Int} (h : Wr w p P zs) (hb : Below w.heap.size w w') : Wr w' p P zs := h.only (X := fun _ => False) (Only.of_below hb) (fun b hb => hb.elim)
theorem Wr.at {w : World} {p : Nat} {P : Nat → Prop} {zs : List Int} (h : Wr w p P zs) : p < w.heap.size := by
  obtain ⟨_, _, _, q, L, h4, _⟩ := h
  exact h4.size
/-- What a writer's call leaves. -/
def WrTo (p : Nat) (P : Nat → Prop) (zs : List Int) (w w' : World) : Prop := Wr w' p (Plus P w w') zs ∧ Only (fun b => b = p) w w'
def Done (X : World → Prop) (e : Ending) (w' : World) : Prop := e = .returned (.tuple #[]) ∧ X w'
theorem plus_self {P : Nat → Prop} {w : World} {p : Nat} (hp : p < w.heap.size) (h : ¬ P p) (w' : World) : ¬ Plus P w w' p := by
  rintro (x | ⟨x, _⟩)
  · exact h x
  · omega
set_option maxRecDepth 100000 in
theorem add_any {p : Nat} {P : Nat → Prop} {zs : List Int} (A : Option Addr) (n c : Nat) (ys : List Int) (w : World) (hw : Wr w p P zs) (hr : Row w A n ys) (hc : n ≤ c) (hA : ∀ x, A = some x → P x.block) (hle : zs.length + n ≤ 1000000) :
    Calls Tryz.prog 103 #[.pointer (some ⟨p, 0, none⟩), .slice A n c] w (Done (WrTo p P (zs ++ ys) w)) := by
  have hp := hw.at
  have hl := hr.1
  by_cases h0 : n = 0
  · subst h0
    obtain rfl : ys = [] := List.eq_nil_of_length_eq_zero hl
    have HE := Lib.hid (show WrTo p P (zs ++ []) w w from ⟨by rw [List.append_nil]; exact hw.mono (fun b hb => .inl hb) (plus_self hp hw.2.2.1 _), Only.refl _ _⟩)
    go_enter Tryz.func103, Tryz.ntmps103
    go_wp2
    refine bodyPost_ret (results_none rfl _ _ _) rfl ?_
    exact ⟨rfl, HE.out⟩
  · obtain ⟨h1, h2, h3, q, L, h4, h5, h6⟩ := hw
    have q0 : w.cell? ⟨p, 0, none⟩ = some (.pointer q) := h4.at 0
    have q1 : w.cell? ⟨p, 1, none⟩ = some (.int .i64 (zs.length : Int)) := h4.at 1
    have f0 := h4.soft 0
    have f1 := h4.soft 1
    have hn0 : 0 < n := by omega
    have hap : p ≠ w.heap.size := by omega
    have HE := Lib.hid (show WrTo p P (zs ++ ys) w (((w.setCell ⟨p, 0, none⟩ (.pointer (some ⟨w.heap.size, 0, none⟩))).setCell ⟨p, 1, none⟩ (.int .i64 ((zs.length : Int) + (n : Int)))).alloc (.cells #[.pointer q, .slice A n c] 137)) by
      have o1 : Only (fun b => b = p) w ((w.setCell ⟨p, 0, none⟩ (.pointer (some ⟨w.heap.size, 0, none⟩))).setCell ⟨p, 1, none⟩ (.int .i64 ((zs.length : Int) + (n : Int)))) := ((Only.refl (fun b => b = p) w).setCell rfl _).setCell rfl _
      have hs1 : ((w.setCell ⟨p, 0, none⟩ (.pointer (some ⟨w.heap.size, 0, none⟩))).setCell ⟨p, 1, none⟩ (.int .i64 ((zs.length : Int) + (n : Int)))).heap.size = w.heap.size := by simp [World.setCell]
      have hput := (h4.put 0 (.pointer (some ⟨w.heap.size, 0, none⟩))).put 1 (.int .i64 ((zs.length : Int) + (n : Int)))
      generalize (w.setCell ⟨p, 0, none⟩ (.pointer (some ⟨w.heap.size, 0, none⟩))).setCell ⟨p, 1, none⟩ (.int .i64 ((zs.length : Int) + (n : Int))) = W at *
      have ha : Below W.heap.size W (W.alloc (.cells #[.pointer q, .slice A n c] 137)) := (Below.refl _ W).alloc (Nat.le_refl _) _
      have hsz : (W.alloc (.cells #[.pointer q, .slice A n c] 137)).heap.size = W.heap.size + 1 := by simp
      have hnew := has_new W 137 #[.pointer q, .slice A n c]
      have hext : ∀ b, P b → Plus P w (W.alloc (.cells #[.pointer q, .slice A n c] 137)) b := fun b hb => .inl hb
      have o2 := o1.below ha
      refine ⟨⟨byt_app h1 hr.2.1, by rw [List.length_append]; omega, plus_self hp h3 _, some ⟨w.heap.size, 0, none⟩, ys :: L, ?_, ?_, by rw [joined, h6]⟩, o2⟩
      · rw [List.length_append, hl, show ((zs.length + n : Nat) : Int) = (zs.length : Int) + (n : Int) by omega]
        exact hput.kept ha
      · rw [hs1] at hnew hsz
        refine ⟨w.heap.size, q, A, c, rfl, .inr ⟨Nat.le_refl _, by omega⟩, by rw [hl]; exact hnew, ?_, by omega, by omega, fun x hx => hext _ (hA x hx), (h5.only o2 (fun b hb hP => h3 (hb ▸ hP))).mono hext⟩
        rw [hl]
        exact row_keep hr o2 (fun x hx e => h3 (e ▸ hA x hx)))
    clear h4 h5 h6 h1 h2 h3 hA hr
    go_enter Tryz.func103, Tryz.ntmps103
    go_wp2
    go_end0
    exact ⟨rfl, HE.out⟩
end Go.Proofs.YtcecommnpdfhgaaGreatDoor

namespace Go.Proofs.YtcecommnpdfhgaaGreatDoor
open Go.RowKit
set_option linter.unusedVariables false
set_option linter.unusedSimpArgs false

theorem plus_plus {P : Nat → Prop} {w w1 w2 : World} (h1 : w.heap.size ≤ w1.heap.size) (h2 : w1.heap.size ≤ w2.heap.size) : ∀ b, Plus (Plus P w w1) w1 w2 b → Plus P w w2 b := by
  rintro b ((h | h) | h)
  · exact .inl h
  · exact .inr (by omega)
  · exact .inr (by omega)
/-- A writer's call behind memory that was laid for it. -/
theorem WrTo.after {p : Nat} {P : Nat → Prop} {zs : List Int} {w w1 w2 : World} (hb : Below w.heap.size w w1) (hp : p < w.heap.size) (hP : ¬ P p) (h : WrTo p (Plus P w w1) zs w1 w2) : WrTo p P zs w w2 :=
  ⟨h.1.mono (plus_plus hb.size h.2.size) (plus_self hp hP _), (Only.of_below hb).trans h.2⟩
/-- So many bytes are laid, from the last on. -/
def CeLaying (w : World) (n : Int) (k : Nat) (v i : Value) (wr : World) : Prop := ∃ t : Nat, t ≤ k ∧ v = .int .i64 (n / 256 ^ t) ∧ i = .int .i64 ((k : Int) - (t : Int) - 1) ∧ Has wr w.heap.size 5 (nums (laid n k t)).toArray ∧ Below w.heap.size w wr
set_option maxRecDepth 100000 in
theorem wnum_any {p : Nat} {P : Nat → Prop} {zs : List Int} (n s : Int) (w : World) (hn : -9223372036854775808 ≤ n ∧ n ≤ 9223372036854775807) (hw : Wr w p P zs) (hle : zs.length ≤ 900000) :
    Calls Tryz.prog 71 #[.pointer (some ⟨p, 0, none⟩), .int .i64 n, .int .i64 s] w (Done (WrTo p P (zs ++ numL n (cutN s 8)) w)) := by
  have HC := Lib.hid (cut8 s w)
  have hk := cut_le s 8
  generalize cutN s 8 = k at *
  have hmk := ce_make_bytes .i64 .i64 k k (Nat.le_refl _) (by omega) w
  have hnew := has_new w 5 (zeroBytes k)
  rw [show zeroBytes k = (nums (laid n k 0)).toArray by rw [laid_none]; rfl] at hmk hnew
  have HN := Lib.hid hnew
  have HA := Lib.hid (fun (w1 : World) (hG : Has w1 w.heap.size 5 (nums (numL n k)).toArray) (hb : Below w.heap.size w w1) => show Calls Tryz.prog 103 #[.pointer (some ⟨p, 0, none⟩), .slice (some ⟨w.heap.size, 0, none⟩) k k] w1 (Done (WrTo p P (zs ++ numL n k) w)) by
    have hr := has_row hG (num_byt n k)
    rw [num_len] at hr
    refine (add_any (P := Plus P w w1) (some ⟨w.heap.size, 0, none⟩) k k (numL n k) w1 ((hw.kept hb).mono (fun b h => .inl h) (plus_self hw.at hw.2.2.1 _)) hr (Nat.le_refl _) (fun x hx => by cases hx; exact .inr ⟨Nat.le_refl _, hG.size⟩) (by omega)).mono ?_
    rintro e w2 ⟨h1, h2⟩
    exact ⟨h1, h2.after hb hw.at hw.2.2.1⟩)
  clear hw hnew
  go_enter Tryz.func71, Tryz.ntmps71
  go_wp2_with (go_at_call 102; (with_reducible refine HC.out.mono ?_); rintro e w1 ⟨rfl, rfl⟩)
  clear HC hmk
  go_loopw [1, 7] (fun v i wr => CeLaying w n k v i wr) (fun _ i _ => ((intOf i) + 1).toNat)
  case atStart => exact ⟨0, by omega, by simp, by simp, HN.out, (Below.refl _ w).alloc (Nat.le_refl _) _⟩
  case round =>
    obtain ⟨t, ht, rfl, rfl, hG, hb⟩ := hrel
    by_cases hlt : t < k
    · obtain ⟨d, hd⟩ : ∃ d, k - t - 1 = d := ⟨_, rfl⟩
      have hdi : (k : Int) - (t : Int) - 1 = (d : Int) := by omega
      rw [hdi]
      have hc := has_at hG (j := d) (by rw [laid_len n ht]; omega)
      have hf := hG.soft d
      have hset := has_set hG d (n / 256 ^ t % 256)
      rw [← hd, laid_more n hlt, hd] at hset
      have HS := Lib.hid hset
      have HB := Lib.hid (show Below w.heap.size w (wr.setCell ⟨w.heap.size, d, none⟩ (.int .u8 (n / 256 ^ t % 256))) from hb.setCell (Nat.le_refl _) _)
      have HV := Lib.hid (shift_byte n t)
      clear hset hb
      generalize (laid n k t).getD d 0 = x0 at *
      generalize n / 256 ^ t = y at *
      have i0 : (0 : Int) ≤ (d : Int) := by omega
      have i1 : (d : Int) < (k : Int) := by omega
      go_wp2
      go_roundw
      case rel => exact ⟨t + 1, by omega, by rw [HV.out], by rw [show (d : Int) - 1 = (k : Int) - ((t + 1 : Nat) : Int) - 1 by omega], HS.out, HB.out⟩
      case measure => simp [intOf]
    · obtain rfl : t = k := by omega
      rw [laid_all] at hG
      have HD := Lib.hid (HA.out wr hG hb)
      have hi : ¬ (0 : Int) ≤ (t : Int) - (t : Int) - 1 := by omega
      generalize (t : Int) - (t : Int) - 1 = i at *
      clear HA hG hb HN
      go_wp2_with (go_at_call 103; (with_reducible refine HD.out.mono ?_); rintro e w2 ⟨rfl, h2⟩)
      go_end0
      exact ⟨rfl, h2⟩
theorem raw_made (ys : List Int) (n k : Nat) (h : ys.length = n) : (zeroBytes k).toList.take 0 ++ (nums (ys.take (Nat.min n k)) ++ (zeroBytes k).toList.drop (0 + Nat.min n k)) = nums (rawL ys k) := by
  subst h
  unfold rawL zeroBytes
  rw [List.take_zero, List.nil_append, Nat.zero_add]
  have e1 : ys.take (Nat.min ys.length k) = ys.take k := by
    by_cases hk : k ≤ ys.length
    · rw [show Nat.min ys.length k = k from Nat.min_eq_right hk]
    · rw [show Nat.min ys.length k = ys.length from Nat.min_eq_left (by omega), List.take_of_length_le (Nat.le_refl _), List.take_of_length_le (by omega)]
  have e2 : k - Nat.min ys.length k = k - ys.length := by
    by_cases hk : k ≤ ys.length
    · rw [show Nat.min ys.length k = k from Nat.min_eq_right hk]; omega
    · rw [show Nat.min ys.length k = ys.length from Nat.min_eq_left (by omega)]
  rw [e1]
  simp only [nums, List.map_append, List.map_replicate, List.drop_replicate]
  rw [e2]
set_option maxRecDepth 100000 in
theorem wraw_any {p : Nat} {P : Nat → Prop} {zs : List Int} (A : Option Addr) (n c : Nat) (ys : List Int) (s : Int) (w : World) (hr : Row w A n ys) (hw : Wr w p P zs) (hle : zs.length ≤ 900000) :
    Calls Tryz.prog 72 #[.pointer (some ⟨p, 0, none⟩), .slice A n c, .int .i64 s] w (Done (WrTo p P (zs ++ rawL ys (cutN s 1000)) w)) := by
  have HC := Lib.hid (cut1000 s w)
  have hk := cut_le s 1000
  generalize cutN s 1000 = k at *
  have hmk := ce_make_bytes .i64 .i64 k k (Nat.le_refl _) (by omega) w
  have hb0 : Below w.heap.size w (w.alloc (.cells (zeroBytes k) 5)) := (Below.refl _ w).alloc (Nat.le_refl _) _
  have hnew := has_new w 5 (zeroBytes k)
  have hr1 := row_below hb0 hr
  have hzs : (zeroBytes k).size = k := by simp [zeroBytes, nums]
  have hfit : 0 + Nat.min n k ≤ (zeroBytes k).size := by rw [hzs]; have : Nat.min n k ≤ k := Nat.min_le_right _ _; omega
  have hG : Has ((w.alloc (.cells (zeroBytes k) 5)).setRow w.heap.size ((zeroBytes k).toList.take 0 ++ (nums (ys.take (Nat.min n k)) ++ (zeroBytes k).toList.drop (0 + Nat.min n k))).toArray) w.heap.size 5 (nums (rawL ys k)).toArray := by
    have := setRow_heap (w.alloc (.cells (zeroBytes k) 5)) w.heap.size (zeroBytes k) ((zeroBytes k).toList.take 0 ++ (nums (ys.take (Nat.min n k)) ++ (zeroBytes k).toList.drop (0 + Nat.min n k))).toArray 5 (0, 0) hnew
    rw [raw_made ys n k hr.1] at this ⊢
    exact this
  have hb1 : Below w.heap.size w ((w.alloc (.cells (zeroBytes k) 5)).setRow w.heap.size ((zeroBytes k).toList.take 0 ++ (nums (ys.take (Nat.min n k)) ++ (zeroBytes k).toList.drop (0 + Nat.min n k))).toArray) := below_setRow hb0 (Nat.le_refl _) _
  generalize hW : (w.alloc (.cells (zeroBytes k) 5)).setRow w.heap.size ((zeroBytes k).toList.take 0 ++ (nums (ys.take (Nat.min n k)) ++ (zeroBytes k).toList.drop (0 + Nat.min n k))).toArray = W at *
  have HA := Lib.hid (show Calls Tryz.prog 103 #[.pointer (some ⟨p, 0, none⟩), .slice (some ⟨w.heap.size, 0, none⟩) k k] W (Done (WrTo p P (zs ++ rawL ys k) w)) by
    have hrr := has_row hG (raw_byt hr.2.1 k)
    rw [raw_len] at hrr
    refine (add_any (P := Plus P w W) (some ⟨w.heap.size, 0, none⟩) k k (rawL ys k) W ((hw.kept hb1).mono (fun b h => .inl h) (plus_self hw.at hw.2.2.1 _)) hrr (Nat.le_refl _) (fun x hx => by cases hx; exact .inr ⟨Nat.le_refl _, hG.size⟩) (by omega)).mono ?_
    rintro e w2 ⟨h1, h2⟩
    exact ⟨h1, h2.after hb1 hw.at hw.2.2.1⟩)
  clear hw hG hb1 hr
  have hcp := runs_cp (w.alloc (.cells (zeroBytes k) 5)) 3 (Nat.min n k) w.heap.size 0 k k A n c ys hr1 rfl (zeroBytes k) 5 hnew hfit
  rw [hW] at hcp
  clear hW hr1 hfit
  go_enter Tryz.func72, Tryz.ntmps72
  go_wp2_with (first
    | (go_at_call 102; (with_reducible refine HC.out.mono ?_); rintro e w1 ⟨rfl, rfl⟩)
    | (go_at_call 103; (with_reducible refine HA.out.mono ?_); rintro e w2 ⟨rfl, h2⟩))
  go_end0
  exact ⟨rfl, h2⟩
end Go.Proofs.YtcecommnpdfhgaaGreatDoor

namespace Go.Proofs.YtcecommnpdfhgaaGreatDoor
open Go.RowKit
set_option linter.unusedVariables false
set_option linter.unusedSimpArgs false

/-- A row while it is filled from its end on. -/
def gath (zs : List Int) (e : Nat) : List Int := List.replicate e 0 ++ zs.drop e
theorem gath_none (zs : List Int) : gath zs zs.length = List.replicate zs.length 0 := by simp [gath]
theorem gath_all (zs : List Int) : gath zs 0 = zs := by simp [gath]
theorem gath_len (zs : List Int) {e : Nat} (h : e ≤ zs.length) : (gath zs e).length = zs.length := by simp [gath]; omega
theorem joined_split {ys : List Int} {L : List (List Int)} {zs : List Int} {e : Nat} (he : e ≤ zs.length) (h : joined (ys :: L) = zs.take e) : joined L = zs.take (e - ys.length) ∧ ys ++ zs.drop e = zs.drop (e - ys.length) ∧ ys.length ≤ e := by
  rw [joined] at h
  have hl := congrArg List.length h
  rw [List.length_append, List.length_take] at hl
  have h1 : ys.length ≤ e := by omega
  have e0 : zs = joined L ++ ys ++ zs.drop e := by rw [h, List.take_append_drop]
  have e1 : (joined L).length = e - ys.length := by omega
  refine ⟨?_, ?_, h1⟩
  · rw [e0, List.append_assoc, ← e1, List.take_left]
  · rw [← e1]
    conv => rhs; rw [e0, List.append_assoc, List.drop_left]
theorem gath_more {ys : List Int} {L : List (List Int)} {zs : List Int} {e : Nat} (he : e ≤ zs.length) (h : joined (ys :: L) = zs.take e) :
    (nums (gath zs e)).take (e - ys.length) ++ (nums (ys.take ys.length) ++ (nums (gath zs e)).drop (e - ys.length + ys.length)) = nums (gath zs (e - ys.length)) := by
  obtain ⟨_, h2, h3⟩ := joined_split he h
  rw [List.take_of_length_le (Nat.le_refl _), Nat.sub_add_cancel h3]
  unfold gath
  rw [← h2]
  simp only [nums, List.map_append, List.map_replicate]
  rw [List.take_append_of_le_length (by simp), List.take_replicate, Nat.min_eq_left (Nat.sub_le ..), List.drop_append_of_le_length (by simp), List.drop_replicate, Nat.sub_self, List.replicate_zero, List.nil_append]
def Gathering (w : World) (P : Nat → Prop) (zs : List Int) (v i : Value) (wr : World) : Prop :=
  ∃ (e : Nat) (q : Option Addr) (L : List (List Int)), e ≤ zs.length ∧ v = .int .i64 (e : Int) ∧ i = .pointer q ∧ Chain wr P q L ∧ joined L = zs.take e ∧ Has wr w.heap.size 5 (nums (gath zs e)).toArray ∧ Below w.heap.size w wr
set_option maxRecDepth 100000 in
theorem bytes_any {p : Nat} {P : Nat → Prop} {zs : List Int} (w : World) (hw : Wr w p P zs) (hP : ∀ b, P b → b < w.heap.size) : Calls Tryz.prog 74 #[.pointer (some ⟨p, 0, none⟩)] w (CeGives zs.length zs w) := by
  obtain ⟨h1, h2, h3, q, L, h4, h5, h6⟩ := hw
  obtain ⟨n, hn⟩ : ∃ n, zs.length = n := ⟨_, rfl⟩
  rw [hn] at h4 h2 ⊢
  have hb0 : Below w.heap.size w (w.alloc (.cells (zeroBytes n) 5)) := (Below.refl _ w).alloc (Nat.le_refl _) _
  have q0 : (w.alloc (.cells (zeroBytes n) 5)).cell? ⟨p, 0, none⟩ = some (.pointer q) := (h4.kept hb0).at 0
  have q1 : (w.alloc (.cells (zeroBytes n) 5)).cell? ⟨p, 1, none⟩ = some (.int .i64 (n : Int)) := (h4.kept hb0).at 1
  have r1 : w.cell? ⟨p, 1, none⟩ = some (.int .i64 (n : Int)) := h4.at 1
  have hmk := ce_make_bytes .i64 .i64 n n (Nat.le_refl _) (by omega) w
  have hap : p ≠ w.heap.size := by have := h4.size; omega
  have HS := Lib.hid (show Gathering w P zs (.int .i64 (n : Int)) (.pointer q) (w.alloc (.cells (zeroBytes n) 5)) by
    refine ⟨n, q, L, by omega, rfl, rfl, h5.only (X := fun _ => False) (Only.of_below hb0) (fun b hb => hb.elim), by rw [h6, List.take_of_length_le (by omega)], ?_, hb0⟩
    rw [← hn, gath_none]
    exact has_new _ _ _)
  clear h4 h5 h6 hb0
  go_enter Tryz.func74, Tryz.ntmps74
  go_wp2
  go_loopw [4, 5] (fun v i wr => Gathering w P zs v i wr) (fun v _ _ => (intOf v).toNat)
  case atStart => exact HS.out
  case round =>
    clear HS hmk q0 q1 r1
    obtain ⟨e, q, L, he, rfl, rfl, hc, hj, hG, hb⟩ := hrel
    cases L with
    | nil =>
      obtain rfl : q = none := hc
      have e0 : e = 0 := by
        have := congrArg List.length hj
        rw [List.length_take] at this
        simp only [joined, List.length_nil] at this
        omega
      subst e0
      rw [gath_all] at hG
      have HE := Lib.hid (show CeGives n zs w (.returned (.slice (some ⟨w.heap.size, 0, none⟩) n n)) wr from ⟨_, rfl, ⟨⟨by rw [nums_len]; omega, .inr ⟨w.heap.size, n, _, rfl, Nat.le_refl _, hG, Nat.le_refl _, by unfold maxLen; omega, by simp [nums_len, hn], by simp [nums_len, hn, List.take_of_length_le]⟩⟩, h1⟩, hb⟩)
      clear hG hb hj
      go_wp2
      go_ret
      exact HE.out
    | cons ys L =>
      obtain ⟨g, q', A, c, rfl, k1, k2, k3, k4, k5, k6, k7⟩ := hc
      have c0 : wr.cell? ⟨g, 0, none⟩ = some (.pointer q') := k2.at 0
      have c1 : wr.cell? ⟨g, 1, none⟩ = some (.slice A ys.length c) := k2.at 1
      obtain ⟨j1, j2, j3⟩ := joined_split he hj
      have j4 := gath_more he hj
      obtain ⟨m, hm⟩ : ∃ m, ys.length = m := ⟨_, rfl⟩
      rw [hm] at c1 j3 k3 k4 k5
      obtain ⟨d, hd⟩ : ∃ d, e - m = d := ⟨_, rfl⟩
      have hsub : (e : Int) - (m : Int) = (d : Int) := by omega
      have R2 := run_from wr (some ⟨w.heap.size, 0, none⟩) n n .i64 d (by omega) (Nat.le_refl _)
      rw [show sliced (some ⟨w.heap.size, 0, none⟩) d n n 1 = .slice (some ⟨w.heap.size, d, none⟩) (n - d) (n - d) by simp only [sliced]; rw [if_neg (by omega), Option.map_some, addr_add]; simp] at R2
      have hgl : (gath zs e).length = n := by rw [gath_len zs he, hn]
      have hcp := runs_cp wr 3 m w.heap.size d (n - d) (n - d) A m c ys k3 (Nat.min_eq_left (by omega)) (nums (gath zs e)).toArray 5 hG (by simp [nums_len, hgl]; omega)
      have hbd : Below wr.heap.size wr wr.drew := (Below.refl _ wr).drew
      have hcp2 := runs_cp wr.drew 3 m w.heap.size d (n - d) (n - d) A m c ys (row_below hbd k3) (Nat.min_eq_left (by omega)) (nums (gath zs e)).toArray 5 (hG.kept hbd) (by simp [nums_len, hgl]; omega)
      have R3 := run_from wr.drew (some ⟨w.heap.size, 0, none⟩) n n .i64 d (by omega) (Nat.le_refl _)
      rw [show sliced (some ⟨w.heap.size, 0, none⟩) d n n 1 = .slice (some ⟨w.heap.size, d, none⟩) (n - d) (n - d) by simp only [sliced]; rw [if_neg (by omega), Option.map_some, addr_add]; simp] at R3
      have hG2 := setRow_heap wr.drew w.heap.size (nums (gath zs e)).toArray ((nums (gath zs e)).toArray.toList.take d ++ (nums (ys.take m) ++ (nums (gath zs e)).toArray.toList.drop (d + m))).toArray 5 (0, 0) (hG.kept hbd)
      have o2 : Only (fun b => b = w.heap.size) wr (wr.drew.setRow w.heap.size ((nums (gath zs e)).toArray.toList.take d ++ (nums (ys.take m) ++ (nums (gath zs e)).toArray.toList.drop (d + m))).toArray) := ((Only.refl (fun b => b = w.heap.size) wr).drew).setRow rfl _
      have b2 : Below w.heap.size w (wr.drew.setRow w.heap.size ((nums (gath zs e)).toArray.toList.take d ++ (nums (ys.take m) ++ (nums (gath zs e)).toArray.toList.drop (d + m))).toArray) := below_setRow hb.drew (Nat.le_refl _) _
      generalize hW : wr.drew.setRow w.heap.size ((nums (gath zs e)).toArray.toList.take d ++ (nums (ys.take m) ++ (nums (gath zs e)).toArray.toList.drop (d + m))).toArray = W at *
      rw [List.toList_toArray, ← hd, ← hm, j4, hm, hd] at hG2
      have hne : ∀ b, b = w.heap.size → ¬ P b := fun b hb hPb => by have := hP b hPb; omega
      have c0' : W.cell? ⟨g, 0, none⟩ = some (.pointer q') := (k2.only o2 (fun x => hne _ x k1)).at 0
      have HE := Lib.hid (show Gathering w P zs (.int .i64 (d : Int)) (.pointer q') W from ⟨d, q', L, by omega, rfl, rfl, k7.only o2 hne, by rw [j1, hm, hd], hG2, b2⟩)
      clear hW hG2 o2 b2 hne j1 j2 j4 k2 k3 k6 k7 hG hj hcp
      go_wp2
      go_region
      all_goals
        go_wp2
        go_roundw
        case rel => exact HE.out
        case measure => simp [intOf]; omega
end Go.Proofs.YtcecommnpdfhgaaGreatDoor

namespace Go.Proofs.YtcecommnpdfhgaaGreatDoor
open Go.RowKit
set_option linter.unusedVariables false
set_option linter.unusedSimpArgs false

theorem w64_is (n : Int) : wrap64 n = IntKind.i64.wrap n := by rw [IntKind.wrap_i64]; unfold wrap64; rfl
/-- What Num answers. -/
def GivesN (x : Int) (X : World → Prop) (e : Ending) (w' : World) : Prop := e = .returned (.int .i64 x) ∧ X w'
def Numming (xs : List Int) (w1 : World) (v i : Value) (wr : World) : Prop := ∃ k : Nat, k ≤ xs.length ∧ v = .int .i64 (w64 (val (xs.take k))) ∧ i = .int .i64 (k : Int) ∧ wr = w1
set_option maxRecDepth 100000 in
theorem num_any {p T : Nat} {S : Rs} (s : Int) (w : World) (hS : Rd w p T S) : Calls Tryz.prog 96 #[.pointer (some ⟨p, 0, none⟩), .int .i64 s] w (GivesN (w64 (val (got S (cutN s 8)))) (RdTo p T (aft S (cutN s 8)) w)) := by
  have HC := Lib.hid (cut8 s w)
  have hcl := cut_le s 8
  have HT := Lib.hid (take_any (cutN s 8) w hS (by omega))
  have hgl := got_len S (cutN s 8)
  clear hS
  generalize cutN s 8 = k at *
  generalize hxs : got S k = xs at *
  have HX := Lib.hid (show Took S p T k w = fun e w' => ∃ A c, e = .returned (.slice A xs.length c) ∧ Row w' A xs.length xs ∧ RdTo p T (aft S k) w w' by unfold Took; rw [hxs])
  rw [HX.out] at HT
  clear hxs HX
  go_enter Tryz.func96, Tryz.ntmps96
  go_wp2_with (first
    | (go_at_call 102; (with_reducible refine HC.out.mono ?_); rintro e w1 ⟨rfl, rfl⟩)
    | (go_at_call 122; (with_reducible refine HT.out.mono ?_); rintro e w1 ⟨A1, c1, rfl, hr1, hrd⟩))
  have HD := Lib.hid hrd
  clear HC HT hrd
  go_loopw [5, 13] (fun v i wr => Numming xs w1 v i wr) (fun _ i _ => xs.length - (intOf i).toNat)
  case atStart => exact ⟨0, by omega, rfl, rfl, rfl⟩
  case round =>
    obtain ⟨j, hj, rfl, rfl, rfl⟩ := hrel
    by_cases hlt : j < xs.length
    · obtain ⟨b, off, rfl, hbw, hcell⟩ := row_open hr1 (by omega)
      have hck := hcell j hlt
      have hz := byt_at hr1.2.1 j
      have HV := Lib.hid (show w64 (w64 (val (xs.take j)) * 256 + xs.getD j 0) = w64 (val (xs.take (j + 1))) by rw [w64_step, ← val_more, take_more xs j hlt])
      clear hcell
      generalize xs.getD j 0 = z at *
      generalize w64 (val (xs.take j)) = y at *
      have hor := or_i64 y z hz
      have i0 : (0 : Int) ≤ (j : Int) := by omega
      have i1 : (j : Int) < (xs.length : Int) := by omega
      go_wp2
      go_roundw
      case rel => exact ⟨j + 1, by omega, by rw [← HV.out, ← hor]; exact congrArg _ (congrArg (fun q => bits .or .i64 q z) (w64_is (y * 256))), by go_num, rfl⟩
      case measure => simp [intOf]; omega
    · rw [List.take_of_length_le (by omega)]
      go_wp2
      go_ret
      exact ⟨rfl, HD.out⟩
theorem rnewReader_any (A : Option Addr) (n c : Nat) (zs : List Int) (w : World) (hr : Row w A n zs) (hn : n ≤ 1000000) (hc : n ≤ c) (T : Nat) (hT : T ≤ w.heap.size) (hA : Lies A n T) :
    Calls Tryz.prog 105 #[.slice A n c] w fun e w' => e = .returned (.pointer (some ⟨w.heap.size, 0, none⟩)) ∧ Rr w' w.heap.size T ⟨zs, false⟩ ∧ Below w.heap.size w w' := by
  have HE := Lib.hid (show Rr (w.alloc (.cells #[.slice A n c, .bool false] 157)) w.heap.size T ⟨zs, false⟩ from
    ⟨⟨hr.2.1, fun h => by cases h⟩, hT, by simp only []; have := hr.1; omega, A, n, c, zs, has_new _ _ _, row_below ((Below.refl _ _).alloc (Nat.le_refl _) _) hr, hc, hA, fun _ => rfl⟩)
  go_enter Tryz.func105, Tryz.ntmps105
  go_wp2
  go_ret
  exact ⟨rfl, HE.out, (Below.refl _ w).alloc (Nat.le_refl _) _⟩
set_option maxRecDepth 100000 in
theorem rraw_any {p T : Nat} {S : Rs} (s : Int) (w : World) (hS : Rr w p T S) : Calls Tryz.prog 107 #[.pointer (some ⟨p, 0, none⟩), .int .i64 s] w (GivesR (got S (cutN s 1000)) w (RrTo p T (aft S (cutN s 1000)) w)) := by
  have HC := Lib.hid (rcut1000 s w)
  have hcl := cut_le s 1000
  generalize cutN s 1000 = k at *
  obtain ⟨hok, hT, hle, A, n, c, zs, hh, hr, hc, hA, hz⟩ := hS
  have q0 : w.cell? ⟨p, 0, none⟩ = some (.slice A n c) := hh.at 0
  have q1 : w.cell? ⟨p, 1, none⟩ = some (.bool S.bad) := hh.at 1
  have f0 := hh.soft 0
  have f1 := hh.soft 1
  have o1 : Only (fun b => b = p) w (w.setCell ⟨p, 1, none⟩ (.bool true)) := (Only.refl (fun b => b = p) w).setCell rfl _
  have hr1 : Row (w.setCell ⟨p, 1, none⟩ (.bool true)) A n zs := row_under hr hA o1 (fun b e => by omega)
  have hput := hh.put 1 (.bool true)
  have HF := Lib.hid (show Rr (w.setCell ⟨p, 1, none⟩ (.bool true)) p T ⟨[], true⟩ ∧ Only (fun b => b = p) w (w.setCell ⟨p, 1, none⟩ (.bool true)) from
    ⟨⟨⟨byt_nil, fun _ => rfl⟩, hT, by simp, A, n, c, zs, hput, hr1, hc, hA, fun h => by cases h⟩, o1⟩)
  clear o1 hr1 hput
  cases hb : S.bad with
  | true =>
    rw [got_bad hb, aft_bad hb]
    rw [hb] at q1
    go_enter Tryz.func107, Tryz.ntmps107
    go_wp2_with (go_at_call 29; (with_reducible refine HC.out.mono ?_); rintro e w1 ⟨rfl, rfl⟩)
    go_ret
    exact ⟨_, rfl, own_nil _ _, HF.out⟩
  | false =>
    rw [hb] at q1
    obtain rfl := hz hb
    have hl := hr.1
    by_cases hlt : n < k
    · rw [got_short (by omega), aft_short (by omega)]
      go_enter Tryz.func107, Tryz.ntmps107
      go_wp2_with (go_at_call 29; (with_reducible refine HC.out.mono ?_); rintro e w1 ⟨rfl, rfl⟩)
      go_ret
      exact ⟨_, rfl, own_nil _ _, HF.out⟩
    · have hkn : k ≤ n := by omega
      rw [got_yes hb (by omega), aft_yes hb (by omega)]
      obtain ⟨A1, e1, r1, l1⟩ := row_head hr hA k hkn hc
      obtain ⟨A2, e2, r2, l2⟩ := row_cut hr hA k hkn hc
      have R1 := run_upto w A n c .i64 k (by omega)
      have R2 := fun W => run_from W A n c .i64 k hkn hc
      rw [e1] at R1
      simp only [e2] at R2
      have ho0 := own_nil w w.heap.size
      have HK := Lib.hid (fun (w1 : World) (v : Value) (h3 : Own w1 w.heap.size v k (S.rest.take k)) (h4 : Below w.heap.size w w1) => show GivesR (S.rest.take k) w (RrTo p T ⟨S.rest.drop k, false⟩ w) (.returned v) (w1.setCell ⟨p, 0, none⟩ (.slice A2 (n - k) (c - k))) by
        have hl1 : (S.rest.take k).length = k := by rw [List.length_take]; omega
        have oo : Only (fun b => b = p) w1 (w1.setCell ⟨p, 0, none⟩ (.slice A2 (n - k) (c - k))) := (Only.refl (fun b => b = p) w1).setCell rfl _
        have hput := (hh.kept h4).put 0 (.slice A2 (n - k) (c - k))
        rw [hb] at hput
        have hps := hh.size
        have g4 : Own (w1.setCell ⟨p, 0, none⟩ (.slice A2 (n - k) (c - k))) w.heap.size v k (S.rest.take k) := by
          obtain ⟨⟨u1, u2⟩, u3⟩ := h3
          refine ⟨⟨u1, ?_⟩, u3⟩
          rcases u2 with u2 | ⟨g, cap, cur, y1, y2, y3, y4⟩
          · exact .inl u2
          · exact .inr ⟨g, cap, cur, y1, y2, (heap_setCell_other w1 _ g _ (by simp only []; omega)).trans y3, y4⟩
        refine ⟨v, rfl, by rw [hl1]; exact g4, ⟨⟨byt_drop hok.1 _, fun h => by cases h⟩, hT, by simp only [List.length_drop]; omega, A2, n - k, c - k, _, hput, row_under (row_below h4 r2) l2 oo (fun b e => by omega), by omega, l2, fun _ => rfl⟩, ((Only.refl _ w).below h4).trans oo⟩)
      have hq0 : ∀ w1, Below w.heap.size w w1 → w1.cell? ⟨p, 0, none⟩ = some (.slice A n c) := fun w1 hb1 => (hh.kept hb1).at 0
      have hf0 : ∀ w1, Below w.heap.size w w1 → w1.frozen? ⟨p, 0, none⟩ = false := fun w1 hb1 => (hh.kept hb1).soft 0
      have hbel : ∀ w1, w.grownBy w1 (Value.slice none 0 0).ownBlock → Below w.heap.size w w1 := fun w1 h4 => below_own (Below.refl _ w) ho0 h4 (Nat.le_refl _) (Nat.le_refl _)
      clear hr hA hc hT l1 r2 l2 e1 e2 hh
      go_enter Tryz.func107, Tryz.ntmps107
      go_wp2_with (first
        | (go_at_call 29; (with_reducible refine HC.out.mono ?_); rintro e w1 ⟨rfl, rfl⟩)
        | (at_builtin; (with_reducible refine wpList_app rfl _ _ rfl w.heap.size (.slice none 0 0) 0 [] rfl ho0 _ _ _ (S.rest.take k) rfl r1 (row_none r1) (by omega) (Nat.le_refl _) ?_); intro v' w' h3 h4; rw [Nat.zero_add] at h3; have hb4 := hbel w' h4; have q0' := hq0 w' hb4; have f0' := hf0 w' hb4))
      go_ret
      exact HK.out w' v' h3 hb4
def Rumming (xs : List Int) (w1 : World) (v i : Value) (wr : World) : Prop := ∃ k : Nat, k ≤ xs.length ∧ v = .int .u64 (IntKind.u64.wrap (val (xs.take k))) ∧ i = .int .i64 (k : Int) ∧ wr = w1
set_option maxRecDepth 100000 in
theorem rnum_any {p T : Nat} {S : Rs} (s : Int) (w : World) (hS : Rr w p T S) : Calls Tryz.prog 106 #[.pointer (some ⟨p, 0, none⟩), .int .i64 s] w (GivesN (w64 (val (got S (cutN s 8)))) (RrTo p T (aft S (cutN s 8)) w)) := by
  have HC := Lib.hid (rcut8 s w)
  have hcl := cut_le s 8
  have HT0 := rraw_any (cutN s 8 : Int) w hS
  rw [cut_cut _ _ _ (by omega)] at HT0
  have HT := Lib.hid HT0
  have hgl := got_len S (cutN s 8)
  clear hS HT0
  generalize cutN s 8 = k at *
  generalize got S k = xs at *
  go_enter Tryz.func106, Tryz.ntmps106
  go_wp2_with (first
    | (go_at_call 29; (with_reducible refine HC.out.mono ?_); rintro e w1 ⟨rfl, rfl⟩)
    | (go_at_call 107; (with_reducible refine HT.out.mono ?_); rintro e w1 ⟨v, rfl, ho, hrd⟩; obtain ⟨A1, c1, rfl, hc1, hr1, _⟩ := ho.form))
  have HD := Lib.hid hrd
  clear HC HT hrd ho
  go_loopw [6, 7] (fun v i wr => Rumming xs w1 v i wr) (fun _ i _ => xs.length - (intOf i).toNat)
  case atStart => exact ⟨0, by omega, rfl, rfl, rfl⟩
  case round =>
    obtain ⟨j, hj, rfl, rfl, rfl⟩ := hrel
    by_cases hlt : j < xs.length
    · obtain ⟨b, off, rfl, hbw, hcell⟩ := row_open hr1 (by omega)
      have hck := hcell j hlt
      have hz := byt_at hr1.2.1 j
      have HV := Lib.hid (show IntKind.u64.wrap (IntKind.u64.wrap (val (xs.take j)) * 256 + xs.getD j 0) = IntKind.u64.wrap (val (xs.take (j + 1))) by rw [u64_step, ← val_more, take_more xs j hlt])
      clear hcell
      generalize xs.getD j 0 = z at *
      generalize IntKind.u64.wrap (val (xs.take j)) = y at *
      have hor := or_u64 y z hz
      have i0 : (0 : Int) ≤ (j : Int) := by omega
      have i1 : (j : Int) < (xs.length : Int) := by omega
      go_wp2
      go_roundw
      case rel => exact ⟨j + 1, by omega, by rw [← HV.out, ← hor, IntKind.wrap_u64], by go_num, rfl⟩
      case measure => simp [intOf]; omega
    · rw [List.take_of_length_le (by omega)]
      have HV := Lib.hid (w64_u64 (val xs))
      generalize IntKind.u64.wrap (val xs) = y at *
      go_wp2
      go_ret
      exact ⟨by rw [← HV.out]; exact congrArg (fun q => Ending.returned (.int .i64 q)) (w64_is y), HD.out⟩
end Go.Proofs.YtcecommnpdfhgaaGreatDoor

namespace Go.Proofs.YtcecommnpdfhgaaGreatDoor
open Go.RowKit
set_option linter.unusedVariables false
set_option linter.unusedSimpArgs false

theorem wnew (w : World) : Wr (w.alloc (.cells #[.pointer none, .int .i64 0] 106)) w.heap.size (fun _ => False) [] := ⟨byt_nil, by simp, fun h => h, none, [], has_new _ _ _, rfl, rfl⟩
theorem plus_lt {P : Nat → Prop} {w w' : World} (h : ∀ b, P b → b < w'.heap.size) : ∀ b, Plus P w w' b → b < w'.heap.size := by
  rintro b (h1 | h1)
  · exact h b h1
  · exact h1.2
theorem WrTo.lt {p : Nat} {P : Nat → Prop} {zs : List Int} {w w' : World} (h : WrTo p P zs w w') (hP : ∀ b, P b → b < w.heap.size) : ∀ b, Plus P w w' b → b < w'.heap.size := plus_lt fun b hb => Nat.lt_of_lt_of_le (hP b hb) h.2.size
theorem cut28 : cutN 2 8 = 2 := by decide
theorem num258 : numL 258 2 = [1, 2] := by decide
theorem got12 : got ⟨[1, 2], false⟩ 2 = [1, 2] := rfl
theorem aft12 : aft ⟨[1, 2], false⟩ 2 = ⟨[], false⟩ := rfl
theorem val12 : w64 (val [1, 2]) = 258 := by decide
end Go.Proofs.YtcecommnpdfhgaaGreatDoor

namespace Go.Proofs.YtcecommnpdfhgaaGreatDoor
open Go.RowKit
set_option linter.unusedVariables false
set_option linter.unusedSimpArgs false

/-- out = append(out, xs...), and where out lies then. -/
theorem wpList_app2 {w : World} {ops : Array Oper} {rest : List Oper} {o : Oper} {a : Act} {Q : Exit → Act → World → Prop} (hgd : o.guard = none) (s x : Operand)
    (ho : o.op = .call { callee := .builtin .append, args := #[s, x], argTypes := #[34, 34] })
    (base : Nat) (v : Value) (n : Nat) (xs : List Int) (hs : a.eval s = v) (hown : Own w base v n xs) (ad : Addr) (m c : Nat) (ys : List Int) (hx : a.eval x = .slice (some ad) m c) (hr : Row w (some ad) m ys)
    (h63 : n + m ≤ 1000000) (hbase : base ≤ w.heap.size)
    (h : ∀ v' w', Own w' base v' (n + m) (xs ++ ys) → w.grownBy w' v.ownBlock → (v'.ownBlock = v.ownBlock ∨ v'.ownBlock = some w.heap.size) → wpList Tryz.prog ops Q rest (a.put o.dst v') w') : wpList Tryz.prog ops Q (o :: rest) a w := by
  refine wpList_plain hgd fun K hK => ?_
  obtain ⟨i, hi, hz0, hz1, hz2⟩ := info_parts info5
  obtain ⟨v', w', hrun, h2, h3, _, h4⟩ := run_append_own_at (P := Tryz.prog) w base 34 o.type 5 i (.int .u8 0) 1 1 Tryz.underlying34 hi hz0 hz1 hz2 rfl (by decide) v n (nums xs) hown.1 ad m c (nums ys) (by rw [nums_len, hr.1]; omega) (row_cells hr) (nums_one ys) (by unfold maxLen; omega) (by omega) hbase
  unfold Oper.wp execOp
  simp only [ho, resolve, invoke, builtin, Sem.run_bind, Sem.run_pure, Result.andThen_ok, List.map_toArray, List.map_cons, List.map_nil, hs, hx, hrun]
  exact hK _ _ (h v' w' ⟨by rw [← nums_app]; exact h2, byt_app hown.2 hr.2.1⟩ h3 h4)
theorem Own.stay {w w' : World} {base : Nat} {v : Value} {n : Nat} {zs : List Int} (h : Own w base v n zs) (hs : ∀ g, v.ownBlock = some g → w'.heap[g]? = w.heap[g]?) : Own w' base v n zs := by
  obtain ⟨⟨h1, h2⟩, h3⟩ := h
  refine ⟨⟨h1, ?_⟩, h3⟩
  rcases h2 with h2 | ⟨g, cap, cur, e1, e2, e3, e4⟩
  · exact .inl h2
  · exact .inr ⟨g, cap, cur, e1, e2, (hs g (by rw [e1]; rfl)).trans e3, e4⟩
theorem Own.lt {w : World} {base : Nat} {v : Value} {n : Nat} {zs : List Int} (h : Own w base v n zs) : ∀ g, v.ownBlock = some g → g < w.heap.size := by
  intro g hg
  exact (h.1.lt g hg).2
/-- The document's writer at block p, its row in a block of P. -/
def Rw (w : World) (p : Nat) (P : Nat → Prop) (zs : List Int) : Prop := zs.length ≤ 1000000 ∧ ¬ P p ∧ ∃ v, Has w p 114 #[v] ∧ Own w 0 v zs.length zs ∧ ∀ g, v.ownBlock = some g → P g
theorem Rw.mono {w : World} {p : Nat} {P P' : Nat → Prop} {zs : List Int} (h : Rw w p P zs) (hP : ∀ b, P b → P' b) (hp : ¬ P' p) : Rw w p P' zs := by
  obtain ⟨h1, h2, v, h3, h4, h5⟩ := h
  exact ⟨h1, hp, v, h3, h4, fun g hg => hP _ (h5 g hg)⟩
theorem Rw.at {w : World} {p : Nat} {P : Nat → Prop} {zs : List Int} (h : Rw w p P zs) : p < w.heap.size := by
  obtain ⟨_, _, v, h4, _⟩ := h
  exact h4.size
theorem Rw.only {w w' : World} {p : Nat} {P X : Nat → Prop} {zs : List Int} (h : Rw w p P zs) (o : Only X w w') (hX : ∀ b, X b → b ≠ p ∧ ¬ P b) : Rw w' p P zs := by
  obtain ⟨h1, h2, v, h3, h4, h5⟩ := h
  exact ⟨h1, h2, v, h3.only o (fun x => (hX _ x).1 rfl), h4.stay (fun g hg => o.block g (h4.lt g hg) (fun x => (hX _ x).2 (h5 g hg))), h5⟩
/-- What its call leaves. -/
def RwTo (p : Nat) (P : Nat → Prop) (zs : List Int) (w w' : World) : Prop := Rw w' p (Plus P w w') zs ∧ Only (fun b => b = p ∨ P b) w w'
theorem RwTo.refl {p : Nat} {P : Nat → Prop} {zs : List Int} {w : World} (h : Rw w p P zs) : RwTo p P zs w w := ⟨h.mono (fun b hb => .inl hb) (plus_self h.at h.2.1 _), Only.refl _ _⟩
theorem rw_keep {p : Nat} {P : Nat → Prop} {w wr w2 : World} {v : Value} {o : Obj} (hp : p < w.heap.size) (hP : ¬ P p) (hh : Has wr p 114 #[v]) (hv : ∀ g, v.ownBlock = some g → Plus P w wr g) (h4 : (wr.alloc o).grownBy w2 v.ownBlock) : Has w2 p 114 #[v] :=
  (h4.block p (Nat.lt_of_lt_of_le hh.size (by simp)) (fun e => plus_self hp hP _ (hv p e.symm))).trans (hh.more _)
/-- One byte more. -/
theorem rw_more {p : Nat} {P : Nat → Prop} {xs : List Int} {w wr w2 : World} {v v' : Value} {y : Int} (hp : p < w.heap.size) (hP : ¬ P p) (o : Only (fun b => b = p ∨ P b) w wr) (hh : Has wr p 114 #[v]) (ho : Own wr 0 v xs.length xs) (hv : ∀ g, v.ownBlock = some g → Plus P w wr g)
    (hle : xs.length + 1 ≤ 1000000) (h3 : Own w2 0 v' (xs.length + 1) (xs ++ [y])) (h4 : (wr.alloc (.cells #[.int .u8 y] 5)).grownBy w2 v.ownBlock) (h5 : v'.ownBlock = v.ownBlock ∨ v'.ownBlock = some (wr.alloc (.cells #[.int .u8 y] 5)).heap.size) :
    RwTo p P (xs ++ [y]) w (w2.setCell ⟨p, 0, none⟩ v') := by
  have hsa : (wr.alloc (.cells #[.int .u8 y] 5)).heap.size = wr.heap.size + 1 := by simp
  have hsw : wr.heap.size + 1 ≤ w2.heap.size := by rw [← hsa]; exact h4.size
  have hvp : v.ownBlock ≠ some p := fun e => plus_self hp hP _ (hv p e)
  have hws := o.size
  have oa : Only (fun b => v.ownBlock = some b) (wr.alloc (.cells #[.int .u8 y] 5)) w2 := ⟨h4.os, h4.tape, h4.output, h4.size, fun b hb hn => h4.block b hb (fun e => hn e.symm)⟩
  have o2 : Only (fun b => b = p ∨ P b) w w2 := by
    have q1 : Only (fun b => b = p ∨ P b) w (wr.alloc (.cells #[.int .u8 y] 5)) := o.alloc _
    refine ⟨oa.os.trans q1.os, oa.tape.trans q1.tape, oa.output.trans q1.output, Nat.le_trans q1.size oa.size, fun b hb hn => (oa.block b (Nat.lt_of_lt_of_le hb q1.size) (fun e => ?_)).trans (q1.block b hb hn)⟩
    rcases hv b e with h | h
    · exact hn (.inr h)
    · omega
  have hh2 : Has w2 p 114 #[v] := (hh.more _).only oa hvp
  have hs3 : (w2.setCell ⟨p, 0, none⟩ v').heap.size = w2.heap.size := by simp [World.setCell]
  have hlen : (xs ++ [y]).length = xs.length + 1 := by simp
  have hv' : ∀ g, v'.ownBlock = some g → g ≠ p ∧ Plus P w (w2.setCell ⟨p, 0, none⟩ v') g := by
    intro g hg
    have hlt := h3.lt g hg
    rcases h5 with h5 | h5
    · rw [h5] at hg
      refine ⟨fun e => hvp (e ▸ hg), ?_⟩
      rcases hv g hg with h | h
      · exact .inl h
      · exact .inr (by omega)
    · rw [h5] at hg
      cases hg
      exact ⟨by omega, .inr (by omega)⟩
  refine ⟨⟨by omega, plus_self hp hP _, v', ?_, ?_, fun g hg => (hv' g hg).2⟩, o2.setCell (.inl rfl) _⟩
  · exact hh2.put 0 v'
  · rw [hlen]
    exact h3.stay (fun g hg => heap_setCell_other w2 _ g _ (hv' g hg).1)
/-- So many bytes of a row are written behind what was there. -/
def Adding (p : Nat) (P : Nat → Prop) (zs os : List Int) (w : World) (j : Nat) (wr : World) : Prop := j ≤ os.length ∧ RwTo p P (zs ++ os.take j) w wr
set_option maxRecDepth 100000 in
theorem rwnum_any {p : Nat} {P : Nat → Prop} {zs : List Int} (n s : Int) (w : World) (hw : Rw w p P zs) (hle : zs.length ≤ 900000) :
    Calls Tryz.prog 79 #[.pointer (some ⟨p, 0, none⟩), .int .i64 n, .int .i64 s] w (Done (RwTo p P (zs ++ numL n (cutN s 8)) w)) := by
  have HC := Lib.hid (rcut8 s w)
  have hk := cut_le s 8
  generalize cutN s 8 = k at *
  have hp := hw.at
  have hP := hw.2.1
  have hnl := num_len n k
  have HS := Lib.hid (show Adding p P zs (numL n k) w 0 w from ⟨by omega, by rw [List.take_zero, List.append_nil]; exact .refl hw⟩)
  clear hw
  go_enter Tryz.func79, Tryz.ntmps79
  go_wp2_with (go_at_call 29; (with_reducible refine HC.out.mono ?_); rintro e w1 ⟨rfl, rfl⟩)
  clear HC
  go_loopw [6] (fun i wr => ∃ j : Nat, j ≤ k ∧ i = .int .i64 ((k : Int) - (j : Int) - 1) ∧ Adding p P zs (numL n k) w j wr) (fun i _ => ((intOf i) + 1).toNat)
  case atStart => exact ⟨0, by omega, by simp, HS.out⟩
  case round =>
    clear HS
    obtain ⟨j, hj, rfl, _, ⟨⟨h1, h2, v, h3, h4, h5⟩, ho⟩⟩ := hrel
    by_cases hlt : j < k
    · obtain ⟨d, hd⟩ : ∃ d, k - j - 1 = d := ⟨_, rfl⟩
      have hdi : (k : Int) - (j : Int) - 1 = (d : Int) := by omega
      rw [hdi]
      have hby := byte_u64 n d (by omega)
      have hat := num_at n k j hlt
      rw [show k - 1 - j = d by omega] at hat
      have hbd := byte_bd (n / 256 ^ d)
      have HT := Lib.hid (show (zs ++ (numL n k).take j) ++ [n / 256 ^ d % 256] = zs ++ (numL n k).take (j + 1) by rw [List.append_assoc, ← hat, take_more _ _ (by omega)])
      have hpw := pow_bits d
      have hxl : (zs ++ (numL n k).take j).length = zs.length + j := by rw [List.length_append, List.length_take]; omega
      generalize zs ++ (numL n k).take j = xs at *
      have i0 : (0 : Int) ≤ (d : Int) := by omega
      have i1 : (d : Int) ≤ 7 := by omega
      obtain ⟨N, hN⟩ : ∃ N, xs.length = N := ⟨_, rfl⟩
      obtain ⟨A0, c0, rfl, _, _, _⟩ := h4.form
      have HK := Lib.hid (fun (w2 : World) (v' : Value) => rw_more (v' := v') (w2 := w2) (y := n / 256 ^ d % 256) hp hP ho h3 h4 h5 (by omega))
      have hNle : N + 1 ≤ 1000000 := by omega
      rw [hN] at h3 h4 h5 HK
      clear hN hxl
      have q0 : (wr.alloc (.cells #[.int .u8 (n / 256 ^ d % 256)] 5)).cell? ⟨p, 0, none⟩ = some (.slice A0 N c0) := (h3.more _).at 0
      have q0' : wr.cell? ⟨p, 0, none⟩ = some (.slice A0 N c0) := h3.at 0
      have hr2 := row_one wr hbd
      have ho2 := h4.kept (w' := wr.alloc (.cells #[.int .u8 (n / 256 ^ d % 256)] 5)) ((Below.refl _ wr).alloc (Nat.le_refl _) _)
      have HH := Lib.hid (fun (w2 : World) (q : (wr.alloc (.cells #[.int .u8 (n / 256 ^ d % 256)] 5)).grownBy w2 (Value.slice A0 N c0).ownBlock) => rw_keep hp hP h3 h5 q)
      clear hat hby hpw h3 h4 h5 ho h2
      have hby := byte_u64 n d (by omega)
      have hpw := pow_bits d
      generalize hy : n / 256 ^ d % 256 = y at *
      go_wp2_with (at_builtin; (with_reducible refine wpList_app2 rfl _ _ rfl 0 (.slice A0 N c0) N xs rfl ho2 _ _ _ [y] rfl hr2 (by omega) (Nat.zero_le _) ?_); intro v' w2 g3 g4 g5; obtain ⟨A2, c2, rfl, _, _, _⟩ := g3.form; have g6 := HH.out w2 g4; have g7 := g6.at 0; have g8 := g6.soft 0; have HE := Lib.hid (HK.out w2 _ g3 g4 g5); clear HK HH ho2 hr2 q0)
      go_roundw
      case rel => exact ⟨j + 1, by omega, by rw [show (d : Int) - 1 = (k : Int) - ((j + 1 : Nat) : Int) - 1 by omega], by omega, by rw [← HT.out]; exact HE.out⟩
      case measure => simp [intOf]
    · obtain rfl : j = k := by omega
      have hi : ¬ (0 : Int) ≤ (j : Int) - (j : Int) - 1 := by omega
      have HE := Lib.hid (show RwTo p P (zs ++ numL n j) w wr by
        rw [List.take_of_length_le (by omega)] at h1 h4
        exact ⟨⟨h1, h2, v, h3, h4, h5⟩, ho⟩)
      clear h1 h2 h3 h4 h5 ho
      generalize (j : Int) - (j : Int) - 1 = i at *
      go_wp2
      go_end0
      exact ⟨rfl, HE.out⟩
end Go.Proofs.YtcecommnpdfhgaaGreatDoor

namespace Go.Proofs.YtcecommnpdfhgaaGreatDoor
open Go.RowKit
set_option linter.unusedVariables false
set_option linter.unusedSimpArgs false

set_option maxRecDepth 100000 in
theorem rwraw_any {p : Nat} {P : Nat → Prop} {zs : List Int} (A : Option Addr) (m cap : Nat) (ys : List Int) (s : Int) (w : World) (hr : Row w A m ys) (hA : 0 < m → ∀ x, A = some x → x.block ≠ p ∧ ¬ P x.block) (hw : Rw w p P zs) (hle : zs.length ≤ 900000) :
    Calls Tryz.prog 80 #[.pointer (some ⟨p, 0, none⟩), .slice A m cap, .int .i64 s] w (Done (RwTo p P (zs ++ rawL ys (cutN s 1000)) w)) := by
  have HC := Lib.hid (fun w => rcut1000 s w)
  have hk := cut_le s 1000
  generalize cutN s 1000 = k at *
  have hp := hw.at
  have hP := hw.2.1
  have hnl := raw_len ys k
  have HS := Lib.hid (show Adding p P zs (rawL ys k) w 0 w from ⟨by omega, by rw [List.take_zero, List.append_nil]; exact .refl hw⟩)
  have HR := Lib.hid (fun (wr : World) (o : Only (fun b => b = p ∨ P b) w wr) => row_stays hr o (fun h0 x hx e => e.elim (hA h0 x hx).1 (hA h0 x hx).2))
  have HL := Lib.hid hr.1
  clear hw hr hA
  go_enter Tryz.func80, Tryz.ntmps80
  go_wp2
  go_loopw [6] (fun i wr => ∃ j : Nat, j ≤ k ∧ i = .int .i64 (j : Int) ∧ Adding p P zs (rawL ys k) w j wr) (fun i _ => k - (intOf i).toNat)
  case atStart => exact ⟨0, by omega, rfl, HS.out⟩
  case round =>
    clear HS
    obtain ⟨j, hj, rfl, _, ⟨⟨h1, h2, v, h3, h4, h5⟩, ho⟩⟩ := hrel
    by_cases hlt : j < k
    · have hat := raw_at ys k j hlt
      have HT := Lib.hid (show (zs ++ (rawL ys k).take j) ++ [ys.getD j 0] = zs ++ (rawL ys k).take (j + 1) by rw [List.append_assoc, ← hat, take_more _ _ (by omega)])
      have hxl : (zs ++ (rawL ys k).take j).length = zs.length + j := by rw [List.length_append, List.length_take]; omega
      generalize zs ++ (rawL ys k).take j = xs at *
      have hrr := HR.out wr ho
      have hbd := byt_at hrr.2.1 j
      obtain ⟨N, hN⟩ : ∃ N, xs.length = N := ⟨_, rfl⟩
      obtain ⟨A0, c0, rfl, _, _, _⟩ := h4.form
      have HK := Lib.hid (fun (w2 : World) (v' : Value) => rw_more (v' := v') (w2 := w2) (y := ys.getD j 0) hp hP ho h3 h4 h5 (by omega))
      have hNle : N + 1 ≤ 1000000 := by omega
      rw [hN] at h3 h4 h5 HK
      clear hN hxl hat
      have i0 : (0 : Int) ≤ (j : Int) := by omega
      by_cases hjm : j < m
      · obtain ⟨b, off, rfl, hbw, hcell⟩ := row_open hrr (by omega)
        have hck := hcell j hjm
        have i1 : (j : Int) < (m : Int) := by omega
        clear hcell
        generalize ys.getD j 0 = y at *
        have q0 : (wr.alloc (.cells #[.int .u8 y] 5)).cell? ⟨p, 0, none⟩ = some (.slice A0 N c0) := (h3.more _).at 0
        have q0' : wr.cell? ⟨p, 0, none⟩ = some (.slice A0 N c0) := h3.at 0
        have hr2 := row_one wr hbd
        have ho2 := h4.kept (w' := wr.alloc (.cells #[.int .u8 y] 5)) ((Below.refl _ wr).alloc (Nat.le_refl _) _)
        have HH := Lib.hid (fun (w2 : World) (q : (wr.alloc (.cells #[.int .u8 y] 5)).grownBy w2 (Value.slice A0 N c0).ownBlock) => rw_keep hp hP h3 h5 q)
        clear h3 h4 h5 ho h2 hrr
        go_wp2_with (first
          | (go_at_call 29; (with_reducible refine (HC.out _).mono ?_); rintro e w1 ⟨rfl, rfl⟩)
          | (at_builtin; (with_reducible refine wpList_app2 rfl _ _ rfl 0 (.slice A0 N c0) N xs rfl ho2 _ _ _ [y] rfl hr2 (by omega) (Nat.zero_le _) ?_); intro v' w2 g3 g4 g5; obtain ⟨A2, c2, rfl, _, _, _⟩ := g3.form; have g6 := HH.out w2 g4; have g7 := g6.at 0; have g8 := g6.soft 0; have HE := Lib.hid (HK.out w2 _ g3 g4 g5); clear HK HH ho2 hr2 q0))
        go_roundw
        case rel => exact ⟨j + 1, by omega, by go_num, by omega, by rw [← HT.out]; exact HE.out⟩
        case measure => simp [intOf]; omega
      · have hy0 : ys.getD j 0 = 0 := by
          rw [List.getD_eq_getElem?_getD, List.getElem?_eq_none (by have := HL.out; omega)]
          rfl
        rw [hy0] at HK HT
        have i1 : ¬ (j : Int) < (m : Int) := by omega
        have q0 : (wr.alloc (.cells #[.int .u8 0] 5)).cell? ⟨p, 0, none⟩ = some (.slice A0 N c0) := (h3.more _).at 0
        have q0' : wr.cell? ⟨p, 0, none⟩ = some (.slice A0 N c0) := h3.at 0
        have hr2 := row_one wr (x := 0) (by omega)
        have ho2 := h4.kept (w' := wr.alloc (.cells #[.int .u8 0] 5)) ((Below.refl _ wr).alloc (Nat.le_refl _) _)
        have HH := Lib.hid (fun (w2 : World) (q : (wr.alloc (.cells #[.int .u8 0] 5)).grownBy w2 (Value.slice A0 N c0).ownBlock) => rw_keep hp hP h3 h5 q)
        clear h3 h4 h5 ho h2 hrr hy0 hbd
        go_wp2_with (first
          | (go_at_call 29; (with_reducible refine (HC.out _).mono ?_); rintro e w1 ⟨rfl, rfl⟩)
          | (at_builtin; (with_reducible refine wpList_app2 rfl _ _ rfl 0 (.slice A0 N c0) N xs rfl ho2 _ _ _ [0] rfl hr2 (by omega) (Nat.zero_le _) ?_); intro v' w2 g3 g4 g5; obtain ⟨A2, c2, rfl, _, _, _⟩ := g3.form; have g6 := HH.out w2 g4; have g7 := g6.at 0; have g8 := g6.soft 0; have HE := Lib.hid (HK.out w2 _ g3 g4 g5); clear HK HH ho2 hr2 q0))
        go_roundw
        case rel => exact ⟨j + 1, by omega, by go_num, by omega, by rw [← HT.out]; exact HE.out⟩
        case measure => simp [intOf]; omega
    · obtain rfl : j = k := by omega
      have HE := Lib.hid (show RwTo p P (zs ++ rawL ys j) w wr by
        rw [List.take_of_length_le (by omega)] at h1 h4
        exact ⟨⟨h1, h2, v, h3, h4, h5⟩, ho⟩)
      clear h1 h2 h3 h4 h5 ho
      go_wp2_with (go_at_call 29; (with_reducible refine (HC.out _).mono ?_); rintro e w1 ⟨rfl, rfl⟩)
      go_end0
      exact ⟨rfl, HE.out⟩
end Go.Proofs.YtcecommnpdfhgaaGreatDoor

namespace Go.Proofs.YtcecommnpdfhgaaGreatDoor
open Go.RowKit
set_option linter.unusedVariables false
set_option linter.unusedSimpArgs false

/-- So many bytes are written. -/
def Putting (w : World) (zs : List Int) (n : Nat) (v i : Value) (wr : World) : Prop := ∃ k : Nat, k ≤ n ∧ i = .int .i64 (k : Int) ∧ Own wr w.heap.size v (2 * k) (putL (zs.take k)) ∧ Below w.heap.size w wr
set_option maxRecDepth 100000 in
theorem put_any (a : Option Addr) (n cap : Nat) (zs : List Int) (w : World) (hr : Row w a n zs) (hn : n ≤ 100000) :
    Calls Tryz.prog 73 #[.slice a n cap] w (CeGives (2 * n) (putL zs) w) := by
  have hmk : (Instr.makeSlice 34 (.int .i64 0) (.int .i64 (2 * (n : Int)))).run Tryz.prog w = .ok (.slice (some ⟨w.heap.size, 0, none⟩) 0 (2 * n)) (w.alloc (.cells (zeroBytes (2 * n)) 5)) := by
    have := ce_make_bytes .i64 .i64 0 (2 * n) (by omega) (by omega) w
    rw [show ((2 * n : Nat) : Int) = 2 * (n : Int) by omega] at this
    exact this
  have hw2 : IntKind.i64.wrap (2 * (n : Int)) = 2 * (n : Int) := by rw [IntKind.wrap_i64]; omega
  have hm := own_made w w.heap.size (2 * n) (by omega) (Nat.le_refl _)
  have HR := Lib.hid hr
  have HB := Lib.hid ((Below.refl _ w).alloc (Nat.le_refl _) (.cells (zeroBytes (2 * n)) 5))
  clear hr
  go_enter Tryz.func73, Tryz.ntmps73
  go_wp2
  go_loopw [3, 12] (fun v i wr => Putting w zs n v i wr) (fun _ i _ => n - (intOf i).toNat)
  case atStart => exact ⟨0, by omega, rfl, by rw [put_none]; exact hm, HB.out⟩
  case round =>
    clear hm hmk
    obtain ⟨k, hk, rfl, ho, hb⟩ := hrel
    by_cases hlt : k < n
    · obtain ⟨b, off, rfl, hbw, hcell⟩ := row_open (row_below hb HR.out) (by omega)
      have hck := hcell k hlt
      have hz := byt_at HR.out.2.1 k
      have HS := Lib.hid (put_more zs k (by have := HR.out.1; omega))
      clear hcell
      generalize zs.getD k 0 = z at *
      have hz2 : 0 ≤ 255 - z ∧ 255 - z ≤ 255 := by omega
      have HFL := Lib.hid (show bits .xor .u8 (if IntKind.u8.signed = true then -1 else IntKind.u8.max) z = 255 - z from flip_left hz)
      have hr2 := row_two wr hz hz2
      have ba : Below wr.heap.size wr (wr.alloc (.cells #[.int .u8 z, .int .u8 (255 - z)] 5)) := (Below.refl _ wr).alloc (Nat.le_refl _) _
      have ho2 := ho.kept ba
      have hb2 := hb.trans (ba.mono hb.size)
      have hsz := hb2.size
      go_wp2_with (at_builtin; rw [HFL.out]; (with_reducible refine wpList_app rfl _ _ rfl w.heap.size u3 (2 * k) (putL (zs.take k)) rfl ho2 _ _ _ [z, 255 - z] rfl hr2 (row_none hr2) (by omega) hsz ?_); intro v' w' h3 h4)
      rw [HS.out] at h3
      go_roundw
      case rel => exact ⟨k + 1, by omega, by go_num, by rw [Nat.mul_succ]; exact h3, below_own hb2 ho2 h4 (Nat.le_refl _) hsz⟩
      case measure => simp [intOf]; omega
    · obtain rfl : k = n := by omega
      rw [List.take_of_length_le (by have := HR.out.1; omega)] at ho
      go_wp2
      go_ret
      exact ⟨_, rfl, ho, hb⟩
set_option maxRecDepth 100000 in
theorem rput_any (a : Option Addr) (n cap : Nat) (zs : List Int) (w : World) (hr : Row w a n zs) (hn : n ≤ 100000) :
    Calls Tryz.prog 81 #[.slice a n cap] w (CeGives (2 * n) (putL zs) w) := by
  have HR := Lib.hid hr
  have hm := own_nil w w.heap.size
  clear hr
  go_enter Tryz.func81, Tryz.ntmps81
  go_wp2
  go_loopw [3, 4] (fun v i wr => Putting w zs n v i wr) (fun _ i _ => n - (intOf i).toNat)
  case atStart => exact ⟨0, by omega, rfl, by rw [put_none]; exact hm, Below.refl _ _⟩
  case round =>
    clear hm
    obtain ⟨k, hk, rfl, ho, hb⟩ := hrel
    by_cases hlt : k < n
    · obtain ⟨b, off, rfl, hbw, hcell⟩ := row_open (row_below hb HR.out) (by omega)
      have hck := hcell k hlt
      have hz := byt_at HR.out.2.1 k
      have HS := Lib.hid (put_more zs k (by have := HR.out.1; omega))
      clear hcell
      generalize zs.getD k 0 = z at *
      have hz2 : 0 ≤ 255 - z ∧ 255 - z ≤ 255 := by omega
      have hfl := flip_right hz
      have bd : Below wr.heap.size wr wr.drew := (Below.refl _ wr).drew
      have hr2 : Row (wr.drew.alloc (.cells #[.int .u8 z, .int .u8 (255 - z)] 5)) (some ⟨wr.drew.heap.size, 0, none⟩) 2 [z, 255 - z] := row_two wr.drew hz hz2
      have ba : Below wr.heap.size wr (wr.drew.alloc (.cells #[.int .u8 z, .int .u8 (255 - z)] 5)) := bd.alloc (Nat.le_refl _) _
      have ho2 := ho.kept ba
      have hb2 := hb.trans (ba.mono hb.size)
      have hsz := hb2.size
      go_wp2_with fail
      obtain ⟨v', w', hrun, h3, h4⟩ := runs_app _ w.heap.size 34 u3 (2 * k) (putL (zs.take k)) ho2 (some ⟨wr.heap.size, 0, none⟩) 2 2 [z, 255 - z] hr2 (row_none hr2) (by omega) hsz
      have HRUN := Lib.hid hrun
      clear hrun
      go_region_law (refine step_run (by rfl) (.tmp 11) (.tmp 21) rfl 34 rfl u3 (.slice (some ⟨wr.heap.size, 0, none⟩) 2 2) v' (by simp [Act.eval, Act.put]) (by simp [Act.eval, Act.put]) HRUN.out ?_)
      all_goals
        rw [HS.out] at h3
        go_wp2
        go_roundw
        case rel => exact ⟨k + 1, by omega, by go_num, by rw [Nat.mul_succ]; exact h3, below_own hb2 ho2 h4 (Nat.le_refl _) hsz⟩
        case measure => simp [intOf]; omega
    · obtain rfl : k = n := by omega
      rw [List.take_of_length_le (by have := HR.out.1; omega)] at ho
      go_wp2
      go_ret
      exact ⟨_, rfl, ho, hb⟩
end Go.Proofs.YtcecommnpdfhgaaGreatDoor

namespace Go.Proofs.YtcecommnpdfhgaaGreatDoor
open Go.RowKit
set_option linter.unusedVariables false
set_option linter.unusedSimpArgs false

/-- So many pairs are looked through. -/
def Looking (w : World) (zs : List Int) (n : Nat) (i : Value) (wr : World) : Prop := ∃ k : Nat, 2 * k ≤ n ∧ i = .int .i64 ((2 * k : Nat) : Int) ∧ upto zs k ∧ Below w.heap.size w wr
/-- Whether a row is of pairs alone. -/
def CeLooked (zs : List Int) (w : World) (e : Ending) (w' : World) : Prop := (∃ b, e = .returned (.bool b) ∧ (b = true ↔ Whole zs)) ∧ Below w.heap.size w w'
theorem mod_two (n : Nat) : (n : Int).tmod 2 = ((n % 2 : Nat) : Int) := by rw [Int.tmod_eq_emod_of_nonneg (by omega)]; omega
set_option maxRecDepth 100000 in
theorem whole_any (a : Option Addr) (n cap : Nat) (zs : List Int) (w : World) (hr : Row w a n zs) (hn : n ≤ 1000000) :
    Calls Tryz.prog 120 #[.slice a n cap] w (CeLooked zs w) := by
  have HR := Lib.hid hr
  have hmod := mod_two n
  clear hr
  by_cases h2 : n % 2 = 0
  · rw [h2] at hmod
    have hmod' : (n : Int).tmod 2 = 0 := hmod
    clear hmod
    go_enter Tryz.func120, Tryz.ntmps120
    go_wp2
    go_loopw [3] (fun i wr => Looking w zs n i wr) (fun i _ => n - (intOf i).toNat)
    case atStart => exact ⟨0, by omega, rfl, upto_zero zs, Below.refl _ _⟩
    case round =>
      obtain ⟨k, hk, rfl, hu, hb⟩ := hrel
      by_cases hlt : 2 * k < n
      · obtain ⟨b, off, rfl, hbw, hcell⟩ := row_open (row_below hb HR.out) (by omega)
        have hc1 := hcell (2 * k) hlt
        have hc2 := hcell (2 * k + 1) (by omega)
        have hz := byt_at HR.out.2.1 (2 * k)
        have HU := Lib.hid (@upto_more zs k hu)
        have HN := Lib.hid (@upto_no zs k (by have := HR.out.1; omega))
        have HB := Lib.hid hb
        clear hcell hu hb
        generalize zs.getD (2 * k) 0 = x at *
        generalize zs.getD (2 * k + 1) 0 = y at *
        have hfl : bits .xor .u8 IntKind.u8.max x = 255 - x := flip_left hz
        obtain ⟨K, hK⟩ : ∃ K, 2 * k = K := ⟨_, rfl⟩
        rw [hK] at hc1 hc2 hlt hk ⊢
        have i0 : (K : Int) < (n : Int) := by omega
        have i1 : (0 : Int) ≤ (K : Int) := by omega
        have i2 : (K : Int) + 1 < (n : Int) := by omega
        have i3 : (0 : Int) ≤ (K : Int) + 1 := by omega
        have i4 : IntKind.i64.wrap ((K : Int) + 1) = (K : Int) + 1 := by rw [IntKind.wrap_i64]; omega
        have i5 : ((K : Int) + 1).toNat = K + 1 := by omega
        by_cases hxy : y = 255 - x
        · subst hxy
          have bd := HB.out.drew
          have hcond : (255 - x != bits .xor .u8 (if IntKind.u8.signed = true then -1 else IntKind.u8.max) x) = false := by
            rw [show bits .xor .u8 (if IntKind.u8.signed = true then -1 else IntKind.u8.max) x = 255 - x from flip_left hz]
            simp
          go_wp2
          go_region
          all_goals
            go_wp2
            go_roundw
            case rel => exact ⟨k + 1, by omega, by go_num, HU.out trivial, bd⟩
            case measure => simp [intOf]; omega
        · have hcond : (y != bits .xor .u8 (if IntKind.u8.signed = true then -1 else IntKind.u8.max) x) = true := by
            rw [show bits .xor .u8 (if IntKind.u8.signed = true then -1 else IntKind.u8.max) x = 255 - x from flip_left hz]
            simpa using hxy
          have bd := HB.out.drew
          go_wp2
          go_region
          all_goals
            go_wp2
            go_ret
            exact ⟨⟨_, rfl, ⟨fun h => Bool.noConfusion h, fun h => absurd h (HN.out hxy)⟩⟩, bd⟩
      · go_wp2
        go_ret
        exact ⟨⟨_, rfl, ⟨fun _ => ⟨by rw [HR.out.1]; exact h2, by rw [HR.out.1, show n / 2 = k by omega]; exact hu⟩, fun _ => rfl⟩⟩, hb⟩
  · rw [show n % 2 = 1 by omega] at hmod
    have hmod' : (n : Int).tmod 2 = 1 := hmod
    clear hmod
    go_enter Tryz.func120, Tryz.ntmps120
    go_wp2
    go_ret
    exact ⟨⟨_, rfl, ⟨fun h => Bool.noConfusion h, fun h => absurd h (odd_no (by rw [HR.out.1]; exact h2))⟩⟩, Below.refl _ _⟩
theorem whole_yes (a : Option Addr) (n cap : Nat) (zs : List Int) (w : World) (hr : Row w a n zs) (hn : n ≤ 1000000) (h : Whole zs) :
    Calls Tryz.prog 120 #[.slice a n cap] w fun e w' => e = .returned (.bool true) ∧ Below w.heap.size w w' :=
  (whole_any a n cap zs w hr hn).mono fun e w' ⟨⟨b, h1, h2⟩, h3⟩ => ⟨by rw [h1, h2.2 h], h3⟩
theorem whole_not (a : Option Addr) (n cap : Nat) (zs : List Int) (w : World) (hr : Row w a n zs) (hn : n ≤ 1000000) (h : ¬ Whole zs) :
    Calls Tryz.prog 120 #[.slice a n cap] w fun e w' => e = .returned (.bool false) ∧ Below w.heap.size w w' :=
  (whole_any a n cap zs w hr hn).mono fun e w' ⟨⟨b, h1, h2⟩, h3⟩ => ⟨by rw [h1]; cases b with | false => rfl | true => exact absurd (h2.1 rfl) h, h3⟩
/-- What a call that reads answers. -/
def Told (zs : List Int) (w : World) (e : Ending) (w' : World) : Prop := ∃ v rs b, e = .returned (.tuple #[v, .bool b]) ∧ Read zs rs b ∧ Own w' w.heap.size v rs.length rs ∧ Below w.heap.size w w'
/-- So many bytes are read. -/
def Getting (w wm : World) (zs : List Int) (n : Nat) (v i : Value) (wr : World) : Prop := ∃ k : Nat, 2 * k ≤ n ∧ i = .int .i64 ((2 * k : Nat) : Int) ∧ Own wr wm.heap.size v k (evL zs k) ∧ Below w.heap.size w wr ∧ Below wm.heap.size wm wr
set_option maxRecDepth 100000 in
theorem get_any (a : Option Addr) (n cap : Nat) (zs : List Int) (w : World) (hr : Row w a n zs) (hn : n ≤ 100000) :
    Calls Tryz.prog 94 #[.slice a n cap] w (Told zs w) := by
  have HR := Lib.hid hr
  by_cases hw : Whole zs
  · have HW := Lib.hid (whole_yes a n cap zs w hr (by omega) hw)
    have hev := hw.1
    rw [hr.1] at hev
    have hq : (n : Int).tdiv 2 = ((n / 2 : Nat) : Int) := by rw [Int.tdiv_eq_ediv_of_nonneg (by omega)]; omega
    obtain ⟨m, hm⟩ : ∃ m, n / 2 = m := ⟨_, rfl⟩
    rw [hm] at hq
    have HQ := Lib.hid (show Whole zs from hw)
    clear hr hw
    go_enter Tryz.func94, Tryz.ntmps94
    go_wp2_with (go_at_call 120; (with_reducible refine HW.out.mono ?_); rintro e wm ⟨rfl, H1⟩; have hmk := ce_make_bytes .i64 .i64 0 m (by omega) (by omega) wm; replace hmk : (Instr.makeSlice 34 (.int .i64 0) (.int .i64 (m : Int))).run Tryz.prog wm = .ok (.slice (some ⟨wm.heap.size, 0, none⟩) 0 m) (wm.alloc (.cells (zeroBytes m) 5)) := hmk)
    have HM := Lib.hid (own_made wm wm.heap.size m (by omega) (Nat.le_refl _))
    have HB := Lib.hid (show Below w.heap.size w (wm.alloc (.cells (zeroBytes m) 5)) ∧ Below wm.heap.size wm (wm.alloc (.cells (zeroBytes m) 5)) from ⟨H1.alloc H1.size _, (Below.refl _ _).alloc (Nat.le_refl _) _⟩)
    clear hmk HW
    go_loopw [4, 5] (fun v i wr => Getting w wm zs n v i wr) (fun _ i _ => n - (intOf i).toNat)
    case atStart => exact ⟨0, by omega, rfl, HM.out, HB.out.1, HB.out.2⟩
    case round =>
      clear HM HB
      obtain ⟨k, hk, rfl, ho, hb, hb1⟩ := hrel
      by_cases hlt : 2 * k < n
      · obtain ⟨b, off, rfl, hbw, hcell⟩ := row_open (row_below hb HR.out) (by omega)
        have hc1 := hcell (2 * k) hlt
        have hz := byt_at HR.out.2.1 (2 * k)
        have HS := Lib.hid (ev_more zs k)
        clear hcell
        generalize zs.getD (2 * k) 0 = x at *
        obtain ⟨K, hK⟩ : ∃ K, 2 * k = K := ⟨_, rfl⟩
        rw [hK] at hc1 hlt hk ⊢
        have i0 : (K : Int) < (n : Int) := by omega
        have i1 : (0 : Int) ≤ (K : Int) := by omega
        have hr2 := row_one wr hz
        have ba : Below wr.heap.size wr (wr.alloc (.cells #[.int .u8 x] 5)) := (Below.refl _ wr).alloc (Nat.le_refl _) _
        have ho2 := ho.kept ba
        have hb2 := hb1.trans (ba.mono hb1.size)
        have hsz := hb2.size
        have HK := Lib.hid hK
        have hk6 : k ≤ 500000 := by omega
        clear hK hb hb1 ba ho
        go_wp2_with (at_builtin; (with_reducible refine wpList_app rfl _ _ rfl wm.heap.size u4 k (evL zs k) rfl ho2 _ _ _ [x] rfl hr2 (row_none hr2) (by omega) hsz ?_); intro v' w' h3 h4)
        have hK := HK.out
        rw [HS.out] at h3
        have hb3 := below_own hb2 ho2 h4 (Nat.le_refl _) hsz
        go_roundw
        case rel => exact ⟨k + 1, by omega, by go_num, h3, H1.trans (hb3.mono H1.size), hb3⟩
        case measure => simp [intOf]; omega
      · have hkm : k = zs.length / 2 := by have := HR.out.1; omega
        have ho2 := ho.lower H1.size
        go_wp2
        go_ret2
        exact ⟨_, evL zs k, true, rfl, .inl ⟨HQ.out, by rw [hkm], rfl⟩, by rw [ev_len]; exact ho2, hb⟩
  · have HW := Lib.hid (whole_not a n cap zs w hr (by omega) hw)
    have HQ := Lib.hid (show ¬ Whole zs from hw)
    clear hr hw
    go_enter Tryz.func94, Tryz.ntmps94
    go_wp2_with (go_at_call 120; (with_reducible refine HW.out.mono ?_); rintro e wm ⟨rfl, H1⟩)
    go_ret2
    exact ⟨_, [], _, rfl, .inr ⟨HQ.out, rfl, rfl⟩, own_nil _ _, H1⟩
/-- So many pairs are read. -/
def Taking (w : World) (zs : List Int) (n : Nat) (v i : Value) (wr : World) : Prop := ∃ k : Nat, 2 * k ≤ n ∧ i = .int .i64 ((2 * k : Nat) : Int) ∧ upto zs k ∧ Own wr w.heap.size v k (evL zs k) ∧ Below w.heap.size w wr
set_option maxRecDepth 100000 in
theorem rget_any (a : Option Addr) (n cap : Nat) (zs : List Int) (w : World) (hr : Row w a n zs) (hn : n ≤ 100000) :
    Calls Tryz.prog 104 #[.slice a n cap] w (Told zs w) := by
  have HR := Lib.hid hr
  have hmod := mod_two n
  clear hr
  by_cases h2 : n % 2 = 0
  · rw [h2] at hmod
    have hmod' : (n : Int).tmod 2 = 0 := hmod
    clear hmod
    go_enter Tryz.func104, Tryz.ntmps104
    go_wp2
    go_loopw [4, 5] (fun v i wr => Taking w zs n v i wr) (fun _ i _ => n - (intOf i).toNat)
    case atStart => exact ⟨0, by omega, rfl, upto_zero zs, own_nil _ _, Below.refl _ _⟩
    case round =>
      obtain ⟨k, hk, rfl, hu, ho, hb⟩ := hrel
      by_cases hlt : 2 * k < n
      · obtain ⟨b, off, rfl, hbw, hcell⟩ := row_open (row_below hb HR.out) (by omega)
        have hc1 := hcell (2 * k) hlt
        have hc2 := hcell (2 * k + 1) (by omega)
        have hz := byt_at HR.out.2.1 (2 * k)
        have hz' := byt_at HR.out.2.1 (2 * k + 1)
        have HU := Lib.hid (@upto_more zs k hu)
        have HN := Lib.hid (@upto_no zs k (by have := HR.out.1; omega))
        have HS := Lib.hid (ev_more zs k)
        have HB := Lib.hid hb
        clear hcell hu hb
        generalize zs.getD (2 * k) 0 = x at *
        generalize zs.getD (2 * k + 1) 0 = y at *
        have hxo := xor_all hz hz'
        obtain ⟨K, hK⟩ : ∃ K, 2 * k = K := ⟨_, rfl⟩
        rw [hK] at hc1 hc2 hlt hk ⊢
        have i0 : (K : Int) < (n : Int) := by omega
        have i1 : (0 : Int) ≤ (K : Int) := by omega
        have i2 : (K : Int) + 1 < (n : Int) := by omega
        have i3 : (0 : Int) ≤ (K : Int) + 1 := by omega
        have i4 : IntKind.i64.wrap ((K : Int) + 1) = (K : Int) + 1 := by rw [IntKind.wrap_i64]; omega
        have i5 : ((K : Int) + 1).toNat = K + 1 := by omega
        by_cases hxy : y = 255 - x
        · have hx2 : bits .xor .u8 x y = 255 := hxo.2 hxy
          have HX := Lib.hid hxy
          have ba : Below wr.heap.size wr (wr.alloc (.cells #[.int .u8 x] 5)).drew := ((Below.refl _ wr).alloc (Nat.le_refl _) _).drew
          have hr2 : Row (wr.alloc (.cells #[.int .u8 x] 5)).drew (some ⟨wr.heap.size, 0, none⟩) 1 [x] := row_below (w := wr.alloc (.cells #[.int .u8 x] 5)) (Below.refl _ _).drew (row_one wr hz)
          have ho2 := ho.kept ba
          have hb2 := HB.out.trans (ba.mono HB.out.size)
          have hsz := hb2.size
          have HK := Lib.hid hK
          have hk6 : k ≤ 500000 := by omega
          clear hxy hxo hK ba ho
          go_wp2
          go_region
          all_goals
            go_wp2_with (at_builtin; (with_reducible refine wpList_app rfl _ _ rfl w.heap.size u4 k (evL zs k) rfl ho2 _ _ _ [x] rfl hr2 (row_none hr2) (by omega) hsz ?_); intro v' w' h3 h4)
            have hK := HK.out
            rw [HS.out] at h3
            go_roundw
            case rel => exact ⟨k + 1, by omega, by go_num, HU.out HX.out, h3, below_own hb2 ho2 h4 (Nat.le_refl _) hsz⟩
            case measure => simp [intOf]; omega
        · have hx2 : bits .xor .u8 x y ≠ 255 := fun h => hxy (hxo.1 h)
          have hne : (bits .xor .u8 x y != 255) = true := by simpa using hx2
          have hn2 := HN.out hxy
          have HN2 := Lib.hid hn2
          clear hn2 HN HU hxo hxy
          have bd := HB.out.drew
          go_wp2
          go_region
          all_goals
            go_wp2
            go_ret2
            exact ⟨_, [], _, rfl, .inr ⟨HN2.out, rfl, rfl⟩, own_nil _ _, bd⟩
      · have hkm : zs.length / 2 = k := by have := HR.out.1; omega
        go_wp2
        go_ret2
        exact ⟨_, evL zs k, true, rfl, .inl ⟨⟨by rw [HR.out.1]; exact h2, by rw [hkm]; exact hu⟩, by rw [hkm], rfl⟩, by rw [ev_len]; exact ho, hb⟩
  · rw [show n % 2 = 1 by omega] at hmod
    have hmod' : (n : Int).tmod 2 = 1 := hmod
    clear hmod
    go_enter Tryz.func104, Tryz.ntmps104
    go_wp2
    go_ret2
    exact ⟨_, [], _, rfl, .inr ⟨odd_no (by rw [HR.out.1]; exact h2), rfl, rfl⟩, own_nil _ _, Below.refl _ _⟩
end Go.Proofs.YtcecommnpdfhgaaGreatDoor

namespace Go.Proofs.YtcecommnpdfhgaaGreatDoor
open Go.RowKit
set_option linter.unusedVariables false
set_option linter.unusedSimpArgs false

theorem isSeq_yes (n : Int) (w : World) (h : Seq n) : Calls Tryz.prog 70 #[.int .i64 n] w fun e w' => e = .returned (.bool true) ∧ w = w' := by
  have h1 := h.1
  have h2 := h.2
  have d2 : decide (n ≤ 2147483647) = true := decide_eq_true h2
  clear h
  go_enter Tryz.func70, Tryz.ntmps70
  go_wp2
  go_ret
  exact ⟨rfl, rfl⟩
theorem isSeq_no (n : Int) (w : World) (h : ¬ Seq n) : Calls Tryz.prog 70 #[.int .i64 n] w fun e w' => e = .returned (.bool false) ∧ w = w' := by
  by_cases h1 : 1 ≤ n
  · have h2 : ¬ n ≤ 2147483647 := fun k => h ⟨h1, k⟩
    have d2 : decide (n ≤ 2147483647) = false := decide_eq_false h2
    clear h
    go_enter Tryz.func70, Tryz.ntmps70
    go_wp2
    go_ret
    exact ⟨rfl, rfl⟩
  · clear h
    go_enter Tryz.func70, Tryz.ntmps70
    go_wp2
    go_ret
    exact ⟨rfl, rfl⟩
/-- What a Put answers. -/
def Puts (os : List Int) (er : Int) (w : World) (e : Ending) (w' : World) : Prop := ∃ v, e = .returned (.tuple #[v, .int .i64 er]) ∧ Own w' w.heap.size v os.length os ∧ Below w.heap.size w w'
set_option maxRecDepth 100000 in
theorem cput_any (n : Int) (A : Option Addr) (m c : Nat) (zs : List Int) (w : World) (hn : -9223372036854775808 ≤ n ∧ n ≤ 9223372036854775807) (hr : Row w A m zs) :
    Calls Tryz.prog 35 #[.int .i64 n, .slice A m c] w (Puts (outL n zs m) (errN n m) w) := by
  by_cases hs : Seq n
  · have HS := Lib.hid (isSeq_yes n w hs)
    by_cases hl : 156 < m
    · rw [out_long hl, err_long hs hl]
      have i1 : (156 : Int) < (m : Int) := by omega
      clear hs hr hn
      go_enter Tryz.func35, Tryz.ntmps35
      go_wp2_with (go_at_call 70; (with_reducible refine HS.out.mono ?_); rintro e w1 ⟨rfl, rfl⟩)
      go_ret2
      exact ⟨_, rfl, own_nil _ _, Below.refl _ _⟩
    · rw [out_some hs (by omega), err_none hs (by omega)]
      have i1 : ¬ (156 : Int) < (m : Int) := by omega
      clear hs
      have hw0 := wnew w
      have b0 : Below w.heap.size w (w.alloc (.cells #[.pointer none, .int .i64 0] 106)) := (Below.refl _ w).alloc (Nat.le_refl _) _
      have hr0 := row_below b0 hr
      have HN := Lib.hid (wnum_any n 4 (w.alloc (.cells #[.pointer none, .int .i64 0] 106)) hn hw0 (by simp))
      rw [cut4, List.nil_append] at HN
      have HLT := Lib.hid (row_lies hr)
      clear hr hn
      go_enter Tryz.func35, Tryz.ntmps35
      go_wp2_with (first
        | (go_at_call 70; (with_reducible refine HS.out.mono ?_); rintro e w1 ⟨rfl, rfl⟩)
        | (go_at_call 71; (with_reducible refine HN.out.mono ?_); rintro e w2 ⟨rfl, h2⟩; clear HN; have hr2 := row_under hr0 HLT.out h2.2 (fun b e => by omega); have hlt2 := h2.lt (fun b hb => hb.elim); have HW := Lib.hid (wraw_any A m c zs 156 w2 hr2 h2.1 (by rw [num_len]; omega)); rw [cut156] at HW; clear hr0 hr2)
        | (go_at_call 72; (with_reducible refine HW.out.mono ?_); rintro e w3 ⟨rfl, h3⟩; clear HW; have HB := Lib.hid (bytes_any w3 h3.1 (h3.lt hlt2)); rw [List.length_append, num_len, raw_len] at HB)
        | (go_at_call 74; (with_reducible refine HB.out.mono ?_); rintro e w4 ⟨v4, rfl, o4, b4⟩; clear HB; obtain ⟨A4, c4, rfl, _, r4, _⟩ := o4.form; clear o4; have HP := Lib.hid (put_any A4 160 c4 _ w4 r4 (by omega)); clear r4)
        | (go_at_call 73; (with_reducible refine HP.out.mono ?_); rintro e w5 ⟨v5, rfl, o5, b5⟩))
      have s0 := b0.size
      have s2 := h2.2.size
      have s3 := h3.2.size
      have s4 := b4.size
      have c2 : Below w.heap.size w w2 := b0.trans (h2.2.to_below (by omega) (fun b e => by omega))
      have c3 : Below w.heap.size w w3 := c2.trans (h3.2.to_below (by omega) (fun b e => by omega))
      have c4 := c3.trans (b4.mono (by omega))
      have c5 := c4.trans (b5.mono (by omega))
      go_ret2
      exact ⟨v5, rfl, by rw [cell_len]; exact o5.lower (by omega), c5⟩
  · have HS := Lib.hid (isSeq_no n w hs)
    rw [out_arg hs, err_arg hs]
    clear hs hr hn
    go_enter Tryz.func35, Tryz.ntmps35
    go_wp2_with (go_at_call 70; (with_reducible refine HS.out.mono ?_); rintro e w1 ⟨rfl, rfl⟩)
    go_ret2
    exact ⟨_, rfl, own_nil _ _, Below.refl _ _⟩
theorem only_one {b p : Nat} (h : b = p ∨ (fun _ : Nat => False) b) : b = p := h.elim id (fun h => h.elim)
theorem only_plus {w w' : World} {b : Nat} (h : Plus (fun _ => False) w w' b) : w.heap.size ≤ b := h.elim (fun h => h.elim) (fun h => h.1)
theorem rwnew (w : World) : Rw (w.alloc (.cells #[.slice none 0 0] 114)) w.heap.size (fun _ => False) [] := ⟨by simp, fun h => h, _, has_new _ _ _, own_nil _ _, fun g hg => by cases hg⟩
set_option maxRecDepth 100000 in
theorem rcput_any (n : Int) (A : Option Addr) (m c : Nat) (zs : List Int) (w : World) (hr : Row w A m zs) :
    Calls Tryz.prog 40 #[.int .i64 n, .slice A m c] w (Puts (outL n zs m) (errN n m) w) := by
  by_cases u1 : n < 1
  · have hs : ¬ Seq n := fun h => by have := h.1; omega
    rw [out_arg hs, err_arg hs]
    clear hs hr
    go_enter Tryz.func40, Tryz.ntmps40
    go_wp2
    go_ret2
    exact ⟨_, rfl, own_nil _ _, Below.refl _ _⟩
  by_cases u2 : 2147483647 < n
  · have hs : ¬ Seq n := fun h => by have := h.2; omega
    rw [out_arg hs, err_arg hs]
    clear hs hr
    go_enter Tryz.func40, Tryz.ntmps40
    go_wp2
    go_ret2
    exact ⟨_, rfl, own_nil _ _, Below.refl _ _⟩
  have hs : Seq n := ⟨by omega, by omega⟩
  by_cases hl : 156 < m
  · rw [out_long hl, err_long hs hl]
    have i1 : (156 : Int) < (m : Int) := by omega
    clear hs hr
    go_enter Tryz.func40, Tryz.ntmps40
    go_wp2
    go_ret2
    exact ⟨_, rfl, own_nil _ _, Below.refl _ _⟩
  · rw [out_some hs (by omega), err_none hs (by omega)]
    have i1 : ¬ (156 : Int) < (m : Int) := by omega
    clear hs
    have hw0 := rwnew w
    have b0 : Below w.heap.size w (w.alloc (.cells #[.slice none 0 0] 114)) := (Below.refl _ w).alloc (Nat.le_refl _) _
    have hr0 := row_below b0 hr
    have HN := Lib.hid (rwnum_any n 4 (w.alloc (.cells #[.slice none 0 0] 114)) hw0 (by simp))
    rw [cut4, List.nil_append] at HN
    have HLT := Lib.hid (row_lies hr)
    have hsz : (w.alloc (.cells #[.slice none 0 0] 114)).heap.size = w.heap.size + 1 := by simp
    clear hr
    go_enter Tryz.func40, Tryz.ntmps40
    go_wp2_with (first
      | (go_at_call 79; (with_reducible refine HN.out.mono ?_); rintro e w2 ⟨rfl, h2⟩; clear HN; have hr2 := row_under hr0 HLT.out h2.2 (fun b e => by have := only_one e; omega); have HW := Lib.hid (rwraw_any A m c zs 156 w2 hr2 (fun h0 x hx => by have := HLT.out h0 x hx; exact ⟨by omega, fun hp => by have := only_plus hp; omega⟩) h2.1 (by rw [num_len]; omega)); rw [cut156] at HW; clear hr0 hr2)
      | (go_at_call 80; (with_reducible refine HW.out.mono ?_); rintro e w3 ⟨rfl, h3⟩; clear HW; obtain ⟨_, _, v3, g3, o3, _⟩ := h3.1; rw [List.length_append, num_len, raw_len] at o3; obtain ⟨A3, c3, rfl, _, r3, _⟩ := o3.form; have q3 : w3.cell? ⟨w.heap.size, 0, none⟩ = some (.slice A3 160 c3) := g3.at 0; have HP := Lib.hid (rput_any A3 160 c3 _ w3 r3 (by omega)); clear r3 o3 g3)
      | (go_at_call 81; (with_reducible refine HP.out.mono ?_); rintro e w5 ⟨v5, rfl, o5, b5⟩))
    have s0 := b0.size
    have s2 := h2.2.size
    have s3 := h3.2.size
    have c2 : Below w.heap.size w w2 := b0.trans (h2.2.to_below (by omega) (fun b e => by have := only_one e; omega))
    have c3 : Below w.heap.size w w3 := c2.trans (h3.2.to_below (by omega) (fun b e => by
      rcases e with e | e | e
      · omega
      · exact e.elim
      · omega))
    have c5 := c3.trans (b5.mono (by omega))
    go_ret2
    exact ⟨v5, rfl, by rw [cell_len]; exact o5.lower (by omega), c5⟩
end Go.Proofs.YtcecommnpdfhgaaGreatDoor

namespace Go.Proofs.YtcecommnpdfhgaaGreatDoor
open Go.RowKit
set_option linter.unusedVariables false
set_option linter.unusedSimpArgs false

/-- What a Get answers. -/
def Gets (zs : List Int) (w : World) (e : Ending) (w' : World) : Prop := ∃ n v rs b, e = .returned (.tuple #[.int .i64 n, v, .bool b]) ∧ Cell zs n rs b ∧ Own w' w.heap.size v rs.length rs ∧ Below w.heap.size w w'
theorem gets_none {zs : List Int} {w w' : World} (h : ¬ Good zs) (hb : Below w.heap.size w w') : Gets zs w (.returned (.tuple #[.int .i64 0, .slice none 0 0, .bool false])) w' :=
  ⟨0, _, [], false, rfl, .inr ⟨h, rfl, rfl, rfl⟩, own_nil _ _, hb⟩
set_option maxRecDepth 100000 in
theorem cget_any (A : Option Addr) (m c : Nat) (zs : List Int) (w : World) (hr : Row w A m zs) :
    Calls Tryz.prog 66 #[.slice A m c] w (Gets zs w) := by
  by_cases hm : m = 320
  · subst hm
    have hl := hr.1
    have HD := Lib.hid (get_any A 320 c zs w hr (by omega))
    have HZ := Lib.hid hr.2.1
    clear hr
    by_cases hw : Whole zs
    · have HW := Lib.hid hw
      clear hw
      have he : zs.length / 2 = 160 := by omega
      have HEL := Lib.hid (ev_len zs 160)
      have HEB := Lib.hid (ev_byt HZ.out 160)
      by_cases hq : Seq (seqN zs)
      · have HG := Lib.hid (show Good zs from ⟨hl, HW.out, hq⟩)
        have HQ := Lib.hid hq
        clear hq hl
        go_enter Tryz.func66, Tryz.ntmps66
        go_wp2_with (first
          | (go_at_call 94; (with_reducible refine HD.out.mono ?_); rintro e w1 ⟨v1, rs, b, rfl, hrd, o1, b1⟩; clear HD; obtain ⟨h5, h6⟩ := hrd.some HW.out; subst h6; rw [he] at h5; rw [h5, HEL.out] at o1; obtain ⟨A1, c1, rfl, _, r1, _⟩ := o1.form; clear o1 h5 hrd; have HR := Lib.hid (newReader_any A1 160 c1 _ w1 r1 (by omega)); clear r1)
          | (go_at_call 95; (with_reducible refine HR.out.mono ?_); rintro e w2 ⟨r, rfl, hr2, hd2, b2⟩; clear HR; have HN := Lib.hid (num_any 4 w2 hd2); rw [got_seq HEB.out HEL.out, aft_seq HEL.out] at HN; replace HN : Hid (Calls Tryz.prog 96 #[.pointer (some ⟨r, 0, none⟩), .int .i64 4] w2 (GivesN (seqN zs) (RdTo r r ⟨(evL zs 160).drop 4, false⟩ w2))) := HN)
          | (go_at_call 96; (with_reducible refine HN.out.mono ?_); rintro e w3 ⟨rfl, hd3, o3⟩; clear HN hd2; have HS := Lib.hid (isSeq_yes _ w3 HQ.out); have HE := Lib.hid (raw_any 156 w3 hd3); rw [got_load HEL.out] at HE; clear hd3)
          | (go_at_call 70; (with_reducible refine HS.out.mono ?_); rintro e w4 ⟨rfl, rfl⟩; clear HS)
          | (go_at_call 97; (with_reducible refine HE.out.mono ?_); rintro e w5 ⟨v5, rfl, o5, hd5, q5⟩; clear HE))
        have s1 := b1.size
        have s2 := b2.size
        have s3 := o3.size
        have c3 : Below w.heap.size w w3 := (belowThen b1 b2).trans (o3.to_below (by omega) (fun b e => by omega))
        have c5 : Below w.heap.size w w5 := c3.trans (q5.to_below (by omega) (fun b e => by omega))
        go_ret3
        exact ⟨seqN zs, v5, loadL zs, true, rfl, .inl ⟨HG.out, rfl, rfl, rfl⟩, o5.lower (by omega), c5⟩
      · have HG := Lib.hid (show ¬ Good zs from fun g => hq g.2.2)
        have HQ := Lib.hid hq
        clear hq hl
        go_enter Tryz.func66, Tryz.ntmps66
        go_wp2_with (first
          | (go_at_call 94; (with_reducible refine HD.out.mono ?_); rintro e w1 ⟨v1, rs, b, rfl, hrd, o1, b1⟩; clear HD; obtain ⟨h5, h6⟩ := hrd.some HW.out; subst h6; rw [he] at h5; rw [h5, HEL.out] at o1; obtain ⟨A1, c1, rfl, _, r1, _⟩ := o1.form; clear o1 h5 hrd; have HR := Lib.hid (newReader_any A1 160 c1 _ w1 r1 (by omega)); clear r1)
          | (go_at_call 95; (with_reducible refine HR.out.mono ?_); rintro e w2 ⟨r, rfl, hr2, hd2, b2⟩; clear HR; have HN := Lib.hid (num_any 4 w2 hd2); rw [got_seq HEB.out HEL.out, aft_seq HEL.out] at HN; replace HN : Hid (Calls Tryz.prog 96 #[.pointer (some ⟨r, 0, none⟩), .int .i64 4] w2 (GivesN (seqN zs) (RdTo r r ⟨(evL zs 160).drop 4, false⟩ w2))) := HN)
          | (go_at_call 96; (with_reducible refine HN.out.mono ?_); rintro e w3 ⟨rfl, hd3, o3⟩; clear HN hd2 hd3; have HS := Lib.hid (isSeq_no _ w3 HQ.out))
          | (go_at_call 70; (with_reducible refine HS.out.mono ?_); rintro e w4 ⟨rfl, rfl⟩; clear HS))
        have s1 := b1.size
        have s2 := b2.size
        have c3 : Below w.heap.size w w3 := (belowThen b1 b2).trans (o3.to_below (by omega) (fun b e => by omega))
        go_ret3
        exact gets_none HG.out c3
    · have HG := Lib.hid (show ¬ Good zs from fun g => hw g.2.1)
      have HW := Lib.hid hw
      clear hw hl
      go_enter Tryz.func66, Tryz.ntmps66
      go_wp2_with (go_at_call 94; (with_reducible refine HD.out.mono ?_); rintro e w1 ⟨v1, rs, b, rfl, hrd, o1, b1⟩; clear HD; obtain ⟨h5, h6⟩ := hrd.none HW.out; subst h6; clear o1 h5 hrd)
      go_ret3
      exact gets_none HG.out b1
  · have HG := Lib.hid (show ¬ Good zs from fun g => hm (by rw [← hr.1]; exact g.1))
    have hne : ¬ (m : Int) = 320 := by omega
    clear hr hm
    go_enter Tryz.func66, Tryz.ntmps66
    go_wp2
    go_ret3
    exact gets_none HG.out (Below.refl _ _)
set_option maxRecDepth 100000 in
theorem rcget_any (A : Option Addr) (m c : Nat) (zs : List Int) (w : World) (hr : Row w A m zs) (hle : m ≤ 100000) :
    Calls Tryz.prog 77 #[.slice A m c] w (Gets zs w) := by
  have HD := Lib.hid (rget_any A m c zs w hr hle)
  have HZ := Lib.hid hr.2.1
  by_cases hw : Whole zs
  · have HW := Lib.hid hw
    clear hw
    by_cases hm : m = 320
    · subst hm
      have hl := hr.1
      clear hr
      have he : zs.length / 2 = 160 := by omega
      have HEL := Lib.hid (ev_len zs 160)
      have HEB := Lib.hid (ev_byt HZ.out 160)
      by_cases hq : Seq (seqN zs)
      · have HG := Lib.hid (show Good zs from ⟨hl, HW.out, hq⟩)
        have q1 := hq.1
        have q2 := hq.2
        have d1 : ¬ seqN zs < 1 := by omega
        have d2 : ¬ 2147483647 < seqN zs := by omega
        clear hq hl q1 q2
        go_enter Tryz.func77, Tryz.ntmps77
        go_wp2_with (first
          | (go_at_call 104; (with_reducible refine HD.out.mono ?_); rintro e w1 ⟨v1, rs, b, rfl, hrd, o1, b1⟩; clear HD; obtain ⟨h5, h6⟩ := hrd.some HW.out; subst h6; rw [he] at h5; rw [h5, HEL.out] at o1; obtain ⟨A1, c1, rfl, hc1, r1, _⟩ := o1.form; clear o1 h5 hrd; have HR := Lib.hid (rnewReader_any A1 160 c1 _ w1 r1 (by omega) hc1 w1.heap.size (Nat.le_refl _) (row_lies r1)); clear r1)
          | (go_at_call 105; (with_reducible refine HR.out.mono ?_); rintro e w2 ⟨rfl, hd2, b2⟩; clear HR; have HN := Lib.hid (rnum_any 4 w2 hd2); rw [got_seq HEB.out HEL.out, aft_seq HEL.out] at HN; replace HN : Hid (Calls Tryz.prog 106 #[.pointer (some ⟨w1.heap.size, 0, none⟩), .int .i64 4] w2 (GivesN (seqN zs) (RrTo w1.heap.size w1.heap.size ⟨(evL zs 160).drop 4, false⟩ w2))) := HN)
          | (go_at_call 106; (with_reducible refine HN.out.mono ?_); rintro e w3 ⟨rfl, hd3, o3⟩; clear HN hd2; have HE := Lib.hid (rraw_any 156 w3 hd3); rw [got_load HEL.out] at HE; clear hd3)
          | (go_at_call 107; (with_reducible refine HE.out.mono ?_); rintro e w5 ⟨v5, rfl, o5, hd5, q5⟩; clear HE))
        have s1 := b1.size
        have s2 := b2.size
        have s3 := o3.size
        have c3 : Below w.heap.size w w3 := (belowThen b1 b2).trans (o3.to_below (by omega) (fun b e => by omega))
        have c5 : Below w.heap.size w w5 := c3.trans (q5.to_below (by omega) (fun b e => by omega))
        go_ret3
        exact ⟨seqN zs, v5, loadL zs, true, rfl, .inl ⟨HG.out, rfl, rfl, rfl⟩, o5.lower (by omega), c5⟩
      · have HG := Lib.hid (show ¬ Good zs from fun g => hq g.2.2)
        have hq2 : seqN zs < 1 ∨ 2147483647 < seqN zs := by
          by_cases k : seqN zs < 1
          · exact .inl k
          · by_cases k2 : 2147483647 < seqN zs
            · exact .inr k2
            · exact absurd ⟨by omega, by omega⟩ hq
        clear hq hl
        have HC : Calls Tryz.prog 77 #[.slice A 320 c] w (Gets zs w) := by
          rcases hq2 with d1 | d2
          · go_enter Tryz.func77, Tryz.ntmps77
            go_wp2_with (first
              | (go_at_call 104; (with_reducible refine HD.out.mono ?_); rintro e w1 ⟨v1, rs, b, rfl, hrd, o1, b1⟩; clear HD; obtain ⟨h5, h6⟩ := hrd.some HW.out; subst h6; rw [he] at h5; rw [h5, HEL.out] at o1; obtain ⟨A1, c1, rfl, hc1, r1, _⟩ := o1.form; clear o1 h5 hrd; have HR := Lib.hid (rnewReader_any A1 160 c1 _ w1 r1 (by omega) hc1 w1.heap.size (Nat.le_refl _) (row_lies r1)); clear r1)
              | (go_at_call 105; (with_reducible refine HR.out.mono ?_); rintro e w2 ⟨rfl, hd2, b2⟩; clear HR; have HN := Lib.hid (rnum_any 4 w2 hd2); rw [got_seq HEB.out HEL.out, aft_seq HEL.out] at HN; replace HN : Hid (Calls Tryz.prog 106 #[.pointer (some ⟨w1.heap.size, 0, none⟩), .int .i64 4] w2 (GivesN (seqN zs) (RrTo w1.heap.size w1.heap.size ⟨(evL zs 160).drop 4, false⟩ w2))) := HN)
              | (go_at_call 106; (with_reducible refine HN.out.mono ?_); rintro e w3 ⟨rfl, hd3, o3⟩; clear HN hd2 hd3))
            have s1 := b1.size
            have s2 := b2.size
            have c3 : Below w.heap.size w w3 := (belowThen b1 b2).trans (o3.to_below (by omega) (fun b e => by omega))
            go_ret3
            exact gets_none HG.out c3
          · have d1 : ¬ seqN zs < 1 := by omega
            go_enter Tryz.func77, Tryz.ntmps77
            go_wp2_with (first
              | (go_at_call 104; (with_reducible refine HD.out.mono ?_); rintro e w1 ⟨v1, rs, b, rfl, hrd, o1, b1⟩; clear HD; obtain ⟨h5, h6⟩ := hrd.some HW.out; subst h6; rw [he] at h5; rw [h5, HEL.out] at o1; obtain ⟨A1, c1, rfl, hc1, r1, _⟩ := o1.form; clear o1 h5 hrd; have HR := Lib.hid (rnewReader_any A1 160 c1 _ w1 r1 (by omega) hc1 w1.heap.size (Nat.le_refl _) (row_lies r1)); clear r1)
              | (go_at_call 105; (with_reducible refine HR.out.mono ?_); rintro e w2 ⟨rfl, hd2, b2⟩; clear HR; have HN := Lib.hid (rnum_any 4 w2 hd2); rw [got_seq HEB.out HEL.out, aft_seq HEL.out] at HN; replace HN : Hid (Calls Tryz.prog 106 #[.pointer (some ⟨w1.heap.size, 0, none⟩), .int .i64 4] w2 (GivesN (seqN zs) (RrTo w1.heap.size w1.heap.size ⟨(evL zs 160).drop 4, false⟩ w2))) := HN)
              | (go_at_call 106; (with_reducible refine HN.out.mono ?_); rintro e w3 ⟨rfl, hd3, o3⟩; clear HN hd2 hd3))
            have s1 := b1.size
            have s2 := b2.size
            have c3 : Below w.heap.size w w3 := (belowThen b1 b2).trans (o3.to_below (by omega) (fun b e => by omega))
            go_ret3
            exact gets_none HG.out c3
        exact HC
    · have HG := Lib.hid (show ¬ Good zs from fun g => hm (by rw [← hr.1]; exact g.1))
      have hne : ¬ (m : Int) = 320 := by omega
      clear hr hm
      go_enter Tryz.func77, Tryz.ntmps77
      go_wp2_with (go_at_call 104; (with_reducible refine HD.out.mono ?_); rintro e w1 ⟨v1, rs, b, rfl, hrd, o1, b1⟩; clear HD; obtain ⟨h5, h6⟩ := hrd.some HW.out; subst h6; clear o1 h5 hrd)
      go_ret3
      exact gets_none HG.out b1
  · have HG := Lib.hid (show ¬ Good zs from fun g => hw g.2.1)
    have HW := Lib.hid hw
    clear hw hr
    go_enter Tryz.func77, Tryz.ntmps77
    go_wp2_with (go_at_call 104; (with_reducible refine HD.out.mono ?_); rintro e w1 ⟨v1, rs, b, rfl, hrd, o1, b1⟩; clear HD; obtain ⟨h5, h6⟩ := hrd.none HW.out; subst h6; clear o1 h5 hrd)
    go_ret3
    exact gets_none HG.out b1
end Go.Proofs.YtcecommnpdfhgaaGreatDoor
