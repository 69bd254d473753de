/-
  What each request answers while an image comes, is tried, and confirmed or given up; conditions: the image is allowed.
-/
import Derived.Test.YtcokpdhhpaahgaaDoorWf
namespace Go.Proofs.YtcokpdhhpaahgaaDoor
open Go.RowKit
set_option linter.unusedVariables false
set_option linter.unusedSimpArgs false

theorem fOf_ok {x : Im} (h : x.Ok) : (fOf x).Ok := ⟨h.1, h.2.1⟩
theorem okA {m : Mt} {x : Im} (hm : m.Ok) (hx : x.Ok) {i : Int} (h0 : 0 ≤ i) (h6 : i ≤ 6) : (gA m x i).Ok := ok_gott (ok_com (ok_phase (setOth_ok hm zeroI_ok) i64_one) hx) (by unfold I64; omega)
theorem okV {m : Mt} {x : Im} (h : May m x) (hm : m.Ok) (hx : x.Ok) : (gV m x).Ok := by
  obtain ⟨c1, c2⟩ := may_chunk h
  have := step_ok (kind := 3) (num := 0) (bs := []) (f := fOf x) (quota := 6) (okA hm hx (i := chunkI x.size) (by omega) c2) byt_nil
  rwa [go_verify h] at this
theorem okB {m : Mt} {x : Im} (h : May m x) (hm : m.Ok) (hx : x.Ok) : ∀ k : Nat, (gB m x k).Ok
  | 0 => by
    have := step_ok (kind := 4) (num := 0) (bs := []) (f := fOf x) (quota := 6) (okV h hm hx) byt_nil
    rwa [go_commit h] at this
  | k + 1 => by
    have := step_ok (kind := 5) (num := 0) (bs := []) (f := fOf x) (quota := 6) (okB h hm hx k) byt_nil
    rwa [go_boot h k] at this
theorem gB_T {m : Mt} {x : Im} {k : Nat} (h1 : 1 ≤ k) (h2 : k ≤ 2) : ∃ t : Int, (t = 0 ∨ t = 1) ∧ gB m x k = gT m x t := by
  rcases (show k = 1 ∨ k = 2 by omega) with rfl | rfl
  · exact ⟨1, .inr rfl, rfl⟩
  · exact ⟨0, .inl rfl, rfl⟩
theorem okC {m : Mt} {x : Im} (h : May m x) (hm : m.Ok) (hx : x.Ok) : (gC m x).Ok := by
  have := step_ok (kind := 6) (num := 0) (bs := []) (f := fOf x) (quota := 6) (okB h hm hx 1) byt_nil
  rwa [show gB m x 1 = gT m x 1 from rfl, go_confirm h (.inr rfl)] at this
theorem okO {m : Mt} {x : Im} (h : May m x) (hm : m.Ok) (hx : x.Ok) : (gO m x).Ok := by
  have := step_ok (kind := 7) (num := 0) (bs := []) (f := fOf x) (quota := 6) (okB h hm hx 1) byt_nil
  rwa [show gB m x 1 = gT m x 1 from rfl, go_roll h (.inr rfl)] at this
/-- The calls, one by one. -/
structure Way (M : Mt) (x : Im) (c : Nat) (bl : List Int) (sA : Nat → Mt) (sV : Mt) (sB : Nat → Mt) (sO sC : Mt) : Prop where
  c1 : 1 ≤ c
  c6 : c ≤ 6
  okA : ∀ k, k ≤ 6 → (sA k).Ok
  okV : sV.Ok
  okB : ∀ k, (sB k).Ok
  okO : sO.Ok
  okC : sC.Ok
  chunk : ∀ W, Calls Tryd.prog 13 #[.int .i64 x.size] W fun e w' => e = .returned (.int .i64 (c : Int)) ∧ W = w'
  beg : ∀ A cp B, 92 ≤ cp → Row B A 92 bl → Calls Tryd.prog 10 #[.agg M.cells, .agg (Rq.cells ⟨1, 0, A, 92, cp, bl⟩), .agg (fOf x).cells, .int .i64 6] B (Does (sA 0, ⟨0, 0, 0⟩) B)
  wri : ∀ k, k < c → ∃ n : Nat, n ≤ 320 ∧ (∀ W, Calls Tryd.prog 15 #[.int .i64 x.size, .int .i64 (k : Int)] W fun e w' => e = .returned (.int .i64 (n : Int)) ∧ W = w') ∧
    ∀ z B, Has B z 5 (zeroBytes n) → Calls Tryd.prog 10 #[.agg (sA k).cells, .agg (Rq.cells ⟨2, (k : Int), some ⟨z, 0, none⟩, n, n, List.replicate n 0⟩), .agg (fOf x).cells, .int .i64 6] B (Does (sA (k + 1), ⟨0, 0, 0⟩) B)
  ver : ∀ B, Calls Tryd.prog 10 #[.agg (sA c).cells, .agg (Rq.cells ⟨3, 0, none, 0, 0, []⟩), .agg (fOf x).cells, .int .i64 6] B (Does (sV, ⟨0, 0, 0⟩) B)
  com : ∀ B, Calls Tryd.prog 10 #[.agg sV.cells, .agg (Rq.cells ⟨4, 0, none, 0, 0, []⟩), .agg (fOf x).cells, .int .i64 6] B (Does (sB 0, ⟨0, 0, 0⟩) B)
  ear : ∀ B, Calls Tryd.prog 10 #[.agg (sB 0).cells, .agg (Rq.cells ⟨6, 0, none, 0, 0, []⟩), .agg (fOf x).cells, .int .i64 6] B (Does (sB 0, ⟨11, 0, 0⟩) B)
  boo : ∀ k : Nat, ∀ B, Calls Tryd.prog 10 #[.agg (sB k).cells, .agg (Rq.cells ⟨5, 0, none, 0, 0, []⟩), .agg (fOf x).cells, .int .i64 6] B (Does (sB (k + 1), ⟨0, if (k : Int) < 2 then 1 - M.act else M.act, 0⟩) B)
  con : ∀ k, 1 ≤ k → k ≤ 2 → ∀ B, Calls Tryd.prog 10 #[.agg (sB k).cells, .agg (Rq.cells ⟨6, 0, none, 0, 0, []⟩), .agg (fOf x).cells, .int .i64 6] B (Does (sC, ⟨0, 0, 0⟩) B)
  rol : ∀ k, 1 ≤ k → k ≤ 2 → ∀ B, Calls Tryd.prog 10 #[.agg (sB k).cells, .agg (Rq.cells ⟨7, 0, none, 0, 0, []⟩), .agg (fOf x).cells, .int .i64 6] B (Does (sO, ⟨0, 0, 0⟩) B)
  last : ∀ k, 3 ≤ k → sB k = sO
theorem call_none {m : Mt} {x : Im} (k : Int) (hk : I64 k) (hm : m.Ok) (hx : x.Ok) {y : Mt × Rp} (e : stepM m k 0 [] (fOf x) 6 = y) (B : World) : Calls Tryd.prog 10 #[.agg m.cells, .agg (Rq.cells ⟨k, 0, none, 0, 0, []⟩), .agg (fOf x).cells, .int .i64 6] B (Does y B) := by
  rw [← e]
  exact do_any m ⟨k, 0, none, 0, 0, []⟩ (fOf x) 6 B hm (fOf_ok hx) (by unfold I64; omega) hk i64_zero (row_none0 B) (Nat.le_refl _) (Nat.zero_le _)
theorem way_of {m : Mt} {x : Im} (h : May m x) (hm : m.Ok) (hx : x.Ok) {bl : List Int} (hg : Man.Good bl) (ht : imOf (Man.told bl) = x) :
    ∃ (c : Nat) (sA : Nat → Mt) (sV : Mt) (sB : Nat → Mt), Way m x c bl sA sV sB (gO m x) (gC m x) := by
  obtain ⟨c1, c2⟩ := may_chunk h
  obtain ⟨c, hc⟩ : ∃ c : Nat, chunkI x.size = (c : Int) := ⟨(chunkI x.size).toNat, by omega⟩
  refine ⟨c, fun k => gA m x (k : Int), gV m x, gB m x, ?_⟩
  refine { c1 := by omega, c6 := by omega, okA := fun k hk => okA hm hx (by omega) (by omega), okV := okV h hm hx, okB := okB h hm hx, okO := okO h hm hx, okC := okC h hm hx, chunk := ?_, beg := ?_, wri := ?_, ver := ?_, com := ?_, ear := ?_, boo := ?_, con := ?_, rol := ?_, last := ?_ }
  · intro W
    rw [← hc]
    exact rchunksI_any x.size W hx.2.2.2
  · intro A cp B hcp hr
    have := do_any m ⟨1, 0, A, 92, cp, bl⟩ (fOf x) 6 B hm (fOf_ok hx) (by unfold I64; omega) i64_one i64_zero hr hcp (by show 92 ≤ 1000000; omega)
    rwa [show stepM m (Rq.kind ⟨1, 0, A, 92, cp, bl⟩) (Rq.num ⟨1, 0, A, 92, cp, bl⟩) (Rq.bs ⟨1, 0, A, 92, cp, bl⟩) (fOf x) 6 = good (gA m x 0) from go_begin h hg ht] at this
  · intro k hk
    have hlen : 0 ≤ lenI x.size (k : Int) ∧ lenI x.size (k : Int) ≤ 320 := by
      rw [len_min]
      split
      · omega
      split
      · omega
      rename_i q1 q2
      have : (k : Int) * 320 < x.size := by
        unfold chunkI at q2
        split at q2 <;> omega
      split <;> omega
    obtain ⟨n, hn⟩ : ∃ n : Nat, lenI x.size (k : Int) = (n : Int) := ⟨(lenI x.size (k : Int)).toNat, by omega⟩
    refine ⟨n, by omega, ?_, ?_⟩
    · intro W
      rw [← hn]
      exact rlenI_any x.size k W hx.2.2.2 (by unfold I64; omega)
    · intro z B hz
      have := do_any (gA m x k) ⟨2, (k : Int), some ⟨z, 0, none⟩, n, n, List.replicate n 0⟩ (fOf x) 6 B (okA hm hx (by omega) (by omega)) (fOf_ok hx) (by unfold I64; omega) i64_two (by show I64 (k : Int); unfold I64; omega) (made_row hz) (Nat.le_refl _) (by show n ≤ 1000000; omega)
      rwa [show stepM (gA m x k) (Rq.kind ⟨2, (k : Int), some ⟨z, 0, none⟩, n, n, List.replicate n 0⟩) (Rq.num ⟨2, (k : Int), some ⟨z, 0, none⟩, n, n, List.replicate n 0⟩) (Rq.bs ⟨2, (k : Int), some ⟨z, 0, none⟩, n, n, List.replicate n 0⟩) (fOf x) 6 = good (gA m x ((k : Int) + 1)) from go_write h (by omega) (by omega) (by rw [List.length_replicate, hn])] at this
  · exact call_none 3 (by unfold I64; omega) (okA hm hx (by omega) (by omega)) hx (by rw [← hc]; exact go_verify h)
  · exact call_none 4 (by unfold I64; omega) (okV h hm hx) hx (go_commit h)
  · exact call_none 6 (by unfold I64; omega) (okB h hm hx 0) hx (go_early h)
  · intro k
    exact call_none 5 (by unfold I64; omega) (okB h hm hx k) hx (go_boot h k)
  · intro k k1 k2
    obtain ⟨t, ht, e⟩ := gB_T (m := m) (x := x) k1 k2
    exact call_none 6 (by unfold I64; omega) (okB h hm hx k) hx (by rw [e]; exact go_confirm h ht)
  · intro k k1 k2
    obtain ⟨t, ht, e⟩ := gB_T (m := m) (x := x) k1 k2
    exact call_none 7 (by unfold I64; omega) (okB h hm hx k) hx (by rw [e]; exact go_roll h ht)
  · intro k k3
    unfold gB
    rw [if_neg (by omega), if_neg (by omega), if_neg (by omega)]
/-- The manifest's bytes. -/
theorem bytes_good {x : Im} {s : ByteArray} {m : Mt} (h : May m x) (hx : x.Ok) (hv : Nam.validL (Nam.all s) = true) : Man.Good (Man.byteL [107] ⟨s, x.ver, x.size, x.dig⟩) ∧ imOf (Man.told (Man.byteL [107] ⟨s, x.ver, x.size, x.dig⟩)) = x := by
  obtain ⟨g, t⟩ := Man.good_back (m := ⟨s, x.ver, x.size, x.dig⟩) hx.1 hv ⟨h.v1, h.v2⟩ ⟨h.s1, by have := h.s2; show x.size ≤ 1073741824; omega⟩ (T := Sha.tagI [107] (Man.bodyL ⟨s, x.ver, x.size, x.dig⟩)) (Sha.tag_len _ _)
  refine ⟨g, ?_⟩
  show imOf (Man.told (Man.bodyL ⟨s, x.ver, x.size, x.dig⟩ ++ Sha.tagI [107] (Man.bodyL ⟨s, x.ver, x.size, x.dig⟩))) = x
  rw [t]
  rfl
theorem bytes_made (x : Im) (s : ByteArray) (hx : x.Ok) (A : Option Addr) (W : World) (h : Row W A 1 [107]) : Calls Tryd.prog 18 #[.slice A 1 1, .agg (Man.Mn.cells ⟨s, x.ver, x.size, x.dig⟩)] W (Gives 92 (Man.byteL [107] ⟨s, x.ver, x.size, x.dig⟩) W) :=
  Man.rmbytes_any A 1 1 [107] ⟨s, x.ver, x.size, x.dig⟩ W h (Nat.le_refl _) (by omega) ⟨hx.1, hx.2.1, hx.2.2.1, hx.2.2.2⟩
end Go.Proofs.YtcokpdhhpaahgaaDoor
