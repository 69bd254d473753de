/-
  A slot's area of a law's own, its calls, and the law's example; conditions: as each states.
-/
import Derived.Test.YtklhmneapegfpaaSi
import Derived.Test.YtklhmneapegfpaaSg
import Derived.Test.YtklhmneapegfpaaRown
import Derived.Laws.BytesArg
import Derived.Lib.SlBytesConst
import Derived.Deep.RegionHeld3
namespace Go.Proofs.Ytklhmneapegfpaa
open Go.RowKit
set_option linter.unusedVariables false
set_option linter.unusedSimpArgs false

/-- A row of bytes as a text. -/
theorem conv_row {w : World} {a : Option Addr} {n c : Nat} {zs : List Int} (h : Row w a n zs) : (convert 22 9 (.slice a n c)).run Try.prog w = .ok (.string (strOfNums zs)) w := by
  by_cases hn : 0 < n
  · obtain ⟨b, off, rfl, _, hc⟩ := row_open h hn
    exact run_convert_bytes_arg w 22 5 Try.underlying22 Try.underlying5 b off n c zs h.1 hc 9 Try.underlying9
  · obtain rfl : n = 0 := by omega
    obtain rfl : zs = [] := List.eq_nil_of_length_eq_zero h.1
    cases a with
    | none => exact run_convert_bytes_nil w 22 5 Try.underlying22 Try.underlying5 0 c 9 Try.underlying9
    | some ad =>
      have hl : (loadCells ad 0).run Try.prog w = .ok (([] : List Int).map (Value.int .u8)).toArray w := run_loadCells_list (P := Try.prog) w ad [] (fun j v hj => by simp at hj)
      rw [run_convert_bytes_string w 22 9 5 _ 0 c Try.underlying22 Try.underlying5 Try.underlying9, run_bytesToString w _ 0 c [] hl]
      rfl
theorem str_same {xs ys : List Int} (hx : Byt xs) (hy : Byt ys) : strOfNums xs = strOfNums ys ↔ xs = ys := by
  constructor
  · intro h
    have h2 : xs.map (fun n => UInt8.ofNat n.toNat) = ys.map (fun n => UInt8.ofNat n.toNat) := by rw [← strOfNums_data, ← strOfNums_data, h]
    have hl : xs.length = ys.length := by simpa using congrArg List.length h2
    refine List.ext_getElem hl fun i h3 h4 => ?_
    have h5 := congrArg (fun l => (l[i]?).map UInt8.toNat) h2
    simp only [List.getElem?_map, List.getElem?_eq_getElem h3, List.getElem?_eq_getElem h4, Option.map_some, Option.some.injEq, UInt8.toNat_ofNat'] at h5
    have b1 := hx _ (List.getElem_mem h3)
    have b2 := hy _ (List.getElem_mem h4)
    omega
  · rintro rfl
    rfl
theorem str_beq {xs ys : List Int} (hx : Byt xs) (hy : Byt ys) : ((strOfNums xs).toList == (strOfNums ys).toList) = decide (xs = ys) := by
  rw [Bool.eq_iff_iff, beq_iff_eq, decide_eq_true_eq, ByteArray.toList_eq, ByteArray.toList_eq, Array.toList_inj]
  exact ⟨fun h => (str_same hx hy).1 (ByteArray.ext h), fun h => by rw [h]⟩
theorem fl_lt {w : World} {T g m k : Nat} {S : Fs} (h : Fl w T g m k S) {b : Nat} (hb : In3 g m k b) : b < w.heap.size := by
  obtain ⟨_, _, _, _, _, a, _⟩ := h
  rcases hb with rfl | rfl | rfl
  · exact a.str.size
  · exact a.mem.size
  · exact a.wear.size
/-- An area of the law's own. -/
structure Rg (w0 w : World) (T x g m k : Nat) (S : Fs) (P : Pt) : Prop where
  ar : Ar w x g P
  fl : Fl w T g m k S
  nin : ¬ In3 g m k x
  hx : w0.heap.size ≤ x
  hg : w0.heap.size ≤ g
  hm : w0.heap.size ≤ m
  hk : w0.heap.size ≤ k
  bel : Below w0.heap.size w0 w
  pok : P.Ok S.wear.length
  few : Few S
theorem Rg.kept {w0 w w' : World} {T x g m k : Nat} {S : Fs} {P : Pt} (h : Rg w0 w T x g m k S P) (b : Below w.heap.size w w') : Rg w0 w' T x g m k S P :=
  ⟨h.ar.kept b, h.fl.kept b, h.nin, h.hx, h.hg, h.hm, h.hk, h.bel.trans (b.mono h.bel.size), h.pok, h.few⟩
theorem Rg.lit {w0 w : World} {T x g m k : Nat} {S : Fs} {P : Pt} (h : Rg w0 w T x g m k S P) (o : Obj) : Rg w0 (w.alloc o) T x g m k S P := h.kept ((Below.refl _ w).alloc (Nat.le_refl _) o)
theorem Rg.drew {w0 w : World} {T x g m k : Nat} {S : Fs} {P : Pt} (h : Rg w0 w T x g m k S P) : Rg w0 w.drew T x g m k S P := h.kept (Below.refl _ w).drew
theorem Rg.to {w0 w w' : World} {T x g m k : Nat} {S S' : Fs} {P : Pt} (h : Rg w0 w T x g m k S P) (t : FlTo T g m k S' w w') (hw : S'.wear.length = S.wear.length) (hf : Few S') : Rg w0 w' T x g m k S' P :=
  ⟨Has.only h.ar t.2 h.nin, t.1, h.nin, h.hx, h.hg, h.hm, h.hk, h.bel.trans (t.2.to_below h.bel.size (by rintro b (rfl | rfl | rfl); exact h.hg; exact h.hm; exact h.hk)), by rw [hw]; exact h.pok, hf⟩
theorem Rg.clear {w0 w : World} {T x g m k : Nat} {S : Fs} {P : Pt} (h : Rg w0 w T x g m k S P) {A : Option Addr} {n : Nat} {zs : List Int} (hr : Row w0 A n zs) : Clear g m k A n := by
  by_cases hn : 0 < n
  · obtain ⟨b, off, rfl, hb, _⟩ := row_open hr hn
    refine .inr ?_
    rintro y hy (e | e | e)
    all_goals (cases hy; simp only [] at e; subst e)
    · have := h.hg; omega
    · have := h.hm; omega
    · have := h.hk; omega
  · exact .inl (by omega)
/-- A row that was made behind the flash. -/
theorem Rg.fresh {w0 w : World} {T x g m k : Nat} {S : Fs} {P : Pt} (h : Rg w0 w T x g m k S P) (b off n : Nat) (hb : w.heap.size ≤ b) : Clear g m k (some ⟨b, off, none⟩) n := by
  refine .inr ?_
  rintro y hy e
  cases hy
  have := fl_lt h.fl e
  simp only [] at this
  omega
/-- What a Write leaves. -/
def WriteTo (w0 : World) (T x g m k : Nat) (S : Fs) (P : Pt) (sl q c : Int) (zs : List Int) (w : World) (e : Ending) (w' : World) : Prop :=
  e = .returned (.int .i64 (writeW S P sl q c zs).1) ∧ Rg w0 w' T x g m k (writeW S P sl q c zs).2 P ∧ Only (In3 g m k) w w'
theorem rg_write {w0 w : World} {T x g m k : Nat} {S : Fs} {P : Pt} (h : Rg w0 w T x g m k S P) (hops : S.ops ≤ 999999) (sl q c : Int) {A : Option Addr} {n : Nat} (z : Nat) {zs : List Int} (hr : Row w A n zs) (hA : Clear g m k A n) :
    Calls Try.prog 11 #[.pointer (some ⟨x, 0, none⟩), .int .i64 sl, .int .i64 q, .int .i64 c, .slice A n z] w (WriteTo w0 T x g m k S P sl q c zs w) :=
  (write_any sl q c A n z zs w h.ar h.nin h.fl h.few hops h.pok hr hA).mono fun e w' ⟨he, t⟩ => ⟨he, h.to t (write_wears S P sl q c zs).1 (few_write h.few P sl q c zs), t.2⟩
theorem rg_image {w0 w : World} {T x g m k : Nat} {S : Fs} {P : Pt} (h : Rg w0 w T x g m k S P) (sl n z : Int) (hi : I64 z) : Calls Try.prog 13 #[.pointer (some ⟨x, 0, none⟩), .int .i64 sl, .int .i64 n, .int .i64 z] w (GivesO (imgL S P sl n z) w) := image_any sl n z w h.ar h.fl h.pok hi
theorem lnum_any (n : Int) (w : World) : Calls Try.prog 10 #[.int .i64 n] w fun e w' => e = .returned (.int .i64 n) ∧ w = w' := by
  go_enter Try.func10, Try.ntmps10
  go_wp2
  go_ret
  exact ⟨rfl, rfl⟩
theorem rg_len (n : Nat) : (fresh n).wear.length = n := List.length_replicate
theorem sect_of {n : Nat} (h : n ≤ 400) : sect (n : Int) = n := by unfold sect; omega
theorem made_n {n : Nat} {b : Int} (hn : 1 ≤ n) (h : 0 ≤ b ∧ b ≤ 1000) : Pt.made n 0 (n : Int) b = ⟨0, n, b.toNat⟩ := by
  unfold Pt.made
  rw [if_pos ⟨by omega, by omega, by omega⟩, show min (max b 0) 1000 = b by omega, show min (n : Int) ((n : Int) - 0) = (n : Int) by omega]
  rfl
/-- An area of n sectors that is new. -/
theorem rg_made {w0 w1 w2 : World} {g m k x n : Nat} {b : Int} (hn : n ≤ 400) (hb : 0 ≤ b ∧ b ≤ 1000) (hg : w0.heap.size ≤ g) (hm : w0.heap.size ≤ m) (hk : w0.heap.size ≤ k) (f1 : Fl w1 w1.heap.size g m k (fresh n)) (b1 : Below w0.heap.size w0 w1)
    (hx : w1.heap.size ≤ x) (a2 : Ar w2 x g ⟨0, n, b.toNat⟩) (b2 : Below w1.heap.size w1 w2) : Rg w0 w2 w1.heap.size x g m k (fresh n) ⟨0, n, b.toNat⟩ :=
  ⟨a2, f1.kept b2, fun e => by have := fl_lt f1 e; omega, by have := b1.size; omega, hg, hm, hk, b1.trans (b2.mono b1.size), by rw [rg_len]; exact ⟨by simp, by omega, by simp only []; omega⟩, few_fresh n⟩
theorem i64_of {a : Int} (h : -1000000 ≤ a ∧ a ≤ 1000000) : I64 a := ⟨by omega, by omega⟩
theorem row_new (w : World) {x : Int} (hx : 0 ≤ x ∧ x ≤ 255) : Row (w.alloc (.cells #[.int .u8 x] 5)) (some ⟨w.heap.size, 0, none⟩) 1 [x] := row_text w [x] (fun y hy => by simp at hy; omega) 1 rfl (0, 0)
/-- A chunk of an image. -/
def chunkS (b : List Int) (j : Nat) : List Int := (b.drop (320 * j)).take 320
theorem chunk_len (b : List Int) (j : Nat) : (chunkS b j).length = min 320 (b.length - 320 * j) := by unfold chunkS; rw [List.length_take, List.length_drop]
theorem chunk_byt {b : List Int} (h : Byt b) (j : Nat) : Byt (chunkS b j) := byt_take (byt_drop h _) _
/-- An image whose chunks all lie in their sectors. -/
theorem img_put {S : Fs} {P : Pt} (hS : S.Ok) (hp : P.Ok S.wear.length) {sl n : Int} {b : List Int} {base : Nat} : ∀ {k : Nat}, (∀ j : Nat, j < k → 320 * j < b.length ∧ atI sl (j : Int) n = ((base + j : Nat) : Int) ∧ base + j < P.cnt ∧ secL S P (base + j) = over ffs (chunkS b j)) →
    img S P sl n (b.length : Int) k = b.take (320 * k)
  | 0, _ => rfl
  | k + 1, h => by
    have ih := img_put hS hp (k := k) fun j hj => h j (by omega)
    obtain ⟨h1, h2, h3, h4⟩ := h k (by omega)
    have hl := chunk_len b k
    unfold img
    rw [ih, h2]
    obtain ⟨q, hq⟩ : ∃ q : Nat, q = (chunkS b k).length := ⟨_, rfl⟩
    rw [show min ((b.length : Int) - 320 * (k : Int)) 320 = (q : Int) by omega, sec_take hS hp h3 (by omega) (by omega), h4, over_take hq]
    unfold chunkS
    rw [show 320 * (k + 1) = 320 * k + 320 by omega, List.take_add]
/-- All of an image. -/
theorem imgL_put {S : Fs} {P : Pt} (hS : S.Ok) (hp : P.Ok S.wear.length) {sl n : Int} {b : List Int} {base k : Nat} (h0 : 1 ≤ b.length) (hk : k = (b.length - 1) / 320 + 1) (hin : inAt sl 0 n) (hz : (b.length : Int) ≤ n * 320)
    (h : ∀ j : Nat, j < k → atI sl (j : Int) n = ((base + j : Nat) : Int) ∧ base + j < P.cnt ∧ secL S P (base + j) = over ffs (chunkS b j)) : imgL S P sl n (b.length : Int) = b := by
  have hki : ((b.length : Int) - 1) / 320 = ((k - 1 : Nat) : Int) := by omega
  obtain ⟨e1, e2, e3⟩ := h (k - 1) (by omega)
  rw [img_yes ⟨by omega, hin, hz, by rw [hki, e1]; omega⟩, hki, show (((k - 1 : Nat) : Int) + 1).toNat = k by omega, img_put hS hp (fun j hj => ⟨by omega, h j hj⟩), List.take_of_length_le (by omega)]
/-- The rest of a region, under a condition that says more. -/
theorem wpAnyH_strong {P : Program} {md : Region.Mode} {ops : Array Oper} {Q : Exit → Act → World → Prop} {S S' : World → Prop} (hs : ∀ w, S' w → S w) :
    ∀ (fuel : Nat) (listed : Array Bool) (a : Act) (w : World), wpAnyH P md ops Q S' fuel listed a w → wpAnyH P md ops Q S fuel listed a w
  | 0, _, _, _, h => h
  | fuel + 1, _, _, _, h => ⟨h.1, fun i hi => wpOp_mono (fun a' w' h' => ⟨hs w' h'.1, wpAnyH_strong hs fuel _ a' w' h'.2⟩) (h.2 i hi)⟩
end Go.Proofs.Ytklhmneapegfpaa
