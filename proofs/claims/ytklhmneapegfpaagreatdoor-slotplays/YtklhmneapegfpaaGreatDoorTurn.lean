/-
  The document's turn: what is at a place becomes the row, but for the mask's bits where it is cut; conditions: the flash is there, fewer than a million operations were done, the row does not lie in the flash.
-/
import Derived.Test.YtklhmneapegfpaaGreatDoorCut
namespace Go.Proofs.YtklhmneapegfpaaGreatDoor
open Go.RowKit
set_option linter.unusedVariables false
set_option linter.unusedSimpArgs false

theorem at_put {w : World} {T g m k : Nat} {cs : Array Value} {S S' : Fs} (h : At w T g m k 59 cs S) (i : Nat) (v : Value) (hm : S'.mem = S.mem) (hw : S'.wear = S.wear) (hok : S'.Ok) :
    At (w.setCell ⟨g, i, none⟩ v) T g m k 59 (cs.setIfInBounds i v) S' ∧ Only (fun b => b = g) w (w.setCell ⟨g, i, none⟩ v) := by
  obtain ⟨n1, n2, n3⟩ := h.ne (.inr rfl)
  have o : Only (fun b => b = g) w (w.setCell ⟨g, i, none⟩ v) := (Only.refl (fun b => b = g) w).setCell rfl _
  exact ⟨⟨hok, h.gT, h.mT, h.kT, h.str.put i v, by rw [hm]; exact h.mem.only o (fun e => n1 e.symm), by rw [hw]; exact h.wear.only o (fun e => n2 e.symm)⟩, o⟩
theorem at_mem {w w' : World} {T g m k : Nat} {cs : Array Value} {S : Fs} (h : At w T g m k 59 cs S) (o : Only (fun b => b = m) w w') {ys : List Int} (hb : Byt ys) (hl : ys.length = S.mem.length) (hm : Bk w' m 5 (nums ys)) : At w' T g m k 59 cs { S with mem := ys } := by
  obtain ⟨n1, n2, n3⟩ := h.ne (.inr rfl)
  exact ⟨ok_mem h.ok hb hl, h.gT, h.mT, h.kT, h.str.only o n1, hm, h.wear.only o (fun e => n3 e.symm)⟩
theorem only_g {g m k : Nat} {w w' : World} (h : Only (fun b => b = g) w w') : Only (In3 g m k) w w' := h.mono fun b e => .inl e
theorem only_m {g m k : Nat} {w w' : World} (h : Only (fun b => b = m) w w') : Only (In3 g m k) w w' := h.mono fun b e => .inr (.inl e)
theorem zero_facts {x y : Int} (hx : 0 ≤ x ∧ x ≤ 255) (hy : 0 ≤ y ∧ y ≤ 255) : bits .and .u8 y 0 = 0 ∧ bits .xor .u8 0 255 = 255 ∧ bits .and .u8 x 255 = x ∧ bits .or .u8 0 x = x := by
  obtain ⟨a, rfl⟩ := Int.eq_ofNat_of_zero_le hx.1
  obtain ⟨b, rfl⟩ := Int.eq_ofNat_of_zero_le hy.1
  refine ⟨?_, by decide +kernel, ?_, ?_⟩
  · rw [u8_and (b : Int) 0 (by omega) (by omega) (by omega) (by omega)]; simp
  · rw [u8_and (a : Int) 255 (by omega) (by omega) (by omega) (by omega)]
    have := Nat.and_two_pow_sub_one_eq_mod a 8
    show (((a : Int).toNat &&& 255 : Nat) : Int) = _
    rw [Int.toNat_natCast, show (255 : Nat) = 2 ^ 8 - 1 from rfl, this]; omega
  · rw [u8_or 0 (a : Int) (by omega) (by omega) (by omega) (by omega)]; simp
set_option maxRecDepth 100000 in
set_option maxHeartbeats 2000000 in
theorem rturn_none {T g m k : Nat} {S : Fs} (hcut : S.cut = none) (a : Nat) (A : Option Addr) (n z : Nat) (zs : List Int) (w : World) (hf : Rl w T g m k S) (hr : Row w A n zs) (ha : a + n ≤ S.mem.length) (hA : Clear g m k A n) (hops : S.ops ≤ 1000000) :
    Calls Tryz.prog 80 #[.pointer (some ⟨g, 0, none⟩), .int .i64 (a : Int), .slice A n z] w fun e w' => e = .returned (.int .i64 (work S a zs).1) ∧ RlTo T g m k (work S a zs).2 w w' := by
  rw [work_none hcut]
  have hok := hf.ok
  have hN : S.mem.length ≤ 128000 := by have := hok.len; have := hok.few; omega
  obtain ⟨c, h, B, n', z', hat, hc⟩ := hf
  rw [hcut] at hc
  have hl := hr.1
  have hrb := hr.2.1
  have i0 : (S.ops : Int) ≤ 1000000 := by omega
  obtain ⟨c0, c1, c2, c3, c4, c5, c6⟩ := rl_cells hat.str
  have s6 := hat.str.soft 6
  have hmT0 := hat.mT
  have hgT0 := hat.gT
  obtain ⟨at1, o1⟩ := at_put hat 6 (.int .i64 ((S.ops : Int) + 1)) (S' := { S with ops := S.ops + 1 }) rfl rfl (ok_ops hok)
  obtain rfl : c = false := hc
  generalize hw1 : w.setCell ⟨g, 6, none⟩ (.int .i64 ((S.ops : Int) + 1)) = W at *
  have atW : At W T g m k 59 (rcells m k S.mem.length S.wear.length (S.ops + 1) S.off false h (.slice B n' z')) { S with ops := S.ops + 1 } := at1
  have hoW : Only (In3 g m k) w W := only_g o1
  obtain ⟨_, _, _, d3, d4, d5, _⟩ := rl_cells atW.str
  clear at1 o1
  have hrW := row_clear hr hoW hA
  have hst : Laying m a S.mem zs [] n W (.int .i64 0) W := ⟨0, rfl, by omega, by rw [mixed_none]; exact atW.mem, Only.refl _ _⟩
  have hmid : ∀ wr, Only (fun b => b = m) W wr → wr.cell? ⟨g, 0, none⟩ = some (.slice (some ⟨m, 0, none⟩) S.mem.length S.mem.length) ∧ wr.cell? ⟨g, 5, none⟩ = some (.slice B n' z') ∧ Row wr A n zs := fun wr o => by
    have hs := atW.str.only o (atW.ne (.inr rfl)).1
    exact ⟨hs.at 0, hs.at 5, row_clear hrW (only_m o) hA⟩
  have HMID := Lib.hid hmid
  have HAT := Lib.hid atW
  have HOW := Lib.hid hoW
  have HH := Lib.hid (show Byt zs ∧ zs.length = n ∧ Byt S.mem from ⟨hrb, hl, hok.byt⟩)
  clear hat hmid hr hrb hok hl hA hrW atW hoW c1 c2 c5
  generalize hNe : S.mem.length = N at *
  have HN := Lib.hid hNe
  clear hNe
  go_enter Tryz.func80, Tryz.ntmps80
  go_wp2_with fail
  go_loopw [8] (fun i wr => Laying m a S.mem zs [] n W i wr) (fun i _ => n - (intOf i).toNat)
  case atStart => exact hst
  case round =>
    obtain ⟨j, rfl, hj, hbk, ho⟩ := hrel
    clear hst
    have j0 : (0 : Int) ≤ (j : Int) := by omega
    obtain ⟨c0, c5, hr⟩ := HMID.out wr ho
    by_cases hlt : j < n
    · have j1 : (j : Int) < (n : Int) := by omega
      obtain ⟨b, off, rfl, hw, hcell⟩ := row_open hr (by omega)
      have qb := hcell j hlt
      have hlen : a + j < (mixed S.mem a zs [] j).length := by rw [mixed_len, HN.out]; omega
      have qm := bk_byte hbk (a + j) hlen
      have qf := hbk.soft (a + j)
      have hlen2 : a + j < S.mem.length := by rw [HN.out]; omega
      rw [mixed_keep _ _ _ _ _ hlen2] at qm
      have hup := mixed_more S.mem a zs [] j hlen2
      rw [mAt_nil, mix_none (byt_at HH.out.2.2 _) (byt_at HH.out.1 _)] at hup
      obtain ⟨z1, z2, z3, z4⟩ := zero_facts (byt_at HH.out.1 j) (byt_at HH.out.2.2 (a + j))
      have i5 : (a : Int) + (j : Int) < (N : Int) := by omega
      have i6 : (0 : Int) ≤ (a : Int) + (j : Int) := by omega
      have e7 : ((a : Int) + (j : Int)).toNat = a + j := by omega
      generalize S.mem.getD (a + j) 0 = y at *
      generalize zs.getD j 0 = x at *
      have hup1 : Bk (wr.drew.setCell ⟨m, a + j, none⟩ (.int .u8 x)) m 5 (nums (mixed S.mem a zs [] (j + 1))) := by
        have := bk_put_byte hbk (a + j) hlen x
        rw [hup] at this
        exact this.keep rfl
      have o2 : Only (fun b => b = m) W (wr.drew.setCell ⟨m, a + j, none⟩ (.int .u8 x)) := ho.drew.setCell rfl _
      clear hcell hup hbk hr ho
      go_wp2_with fail
      go_region
      go_wp2
      go_roundw
      case rel => exact ⟨j + 1, by go_num, by omega, hup1, o2⟩
      case measure => simp [intOf]; omega
    · obtain rfl : j = n := by omega
      have F1 := at_mem HAT.out ho (mixed_byt HH.out.2.2 HH.out.1 byt_nil a j) (mixed_len ..) hbk
      rw [show mixed S.mem a zs [] j = put S.mem a zs [] by unfold put; rw [HH.out.2.1]] at F1
      have hx : (put S.mem a zs []).length = N := by rw [put_len, HN.out]
      go_wp2
      go_ret
      refine ⟨rfl, ⟨false, h, B, n', z', ?_, ?_⟩, HOW.out.trans (only_m ho)⟩
      · show At _ _ _ _ _ _ (rcells m k (put S.mem a zs []).length _ _ _ _ _ _) _
        rw [hx]
        rw [hcut] at F1
        exact F1
      · rfl
set_option maxRecDepth 100000 in
set_option maxHeartbeats 2000000 in
theorem rturn_later {T g m k : Nat} {S : Fs} (q : Nat) (ms : List Int) (hcut : S.cut = some (q + 1, ms)) (a : Nat) (A : Option Addr) (n z : Nat) (zs : List Int) (w : World) (hf : Rl w T g m k S) (hr : Row w A n zs) (ha : a + n ≤ S.mem.length) (hA : Clear g m k A n) (hops : S.ops ≤ 1000000) :
    Calls Tryz.prog 80 #[.pointer (some ⟨g, 0, none⟩), .int .i64 (a : Int), .slice A n z] w fun e w' => e = .returned (.int .i64 (work S a zs).1) ∧ RlTo T g m k (work S a zs).2 w w' := by
  rw [work_later hcut]
  have hok := hf.ok
  have hN : S.mem.length ≤ 128000 := by have := hok.len; have := hok.few; omega
  obtain ⟨c, h, B, n', z', hat, hc⟩ := hf
  rw [hcut] at hc
  have hl := hr.1
  have hrb := hr.2.1
  have i0 : (S.ops : Int) ≤ 1000000 := by omega
  obtain ⟨c0, c1, c2, c3, c4, c5, c6⟩ := rl_cells hat.str
  have s6 := hat.str.soft 6
  have hmT0 := hat.mT
  have hgT0 := hat.gT
  obtain ⟨at1, o1⟩ := at_put hat 6 (.int .i64 ((S.ops : Int) + 1)) (S' := { S with ops := S.ops + 1 }) rfl rfl (ok_ops hok)
  obtain ⟨rfl, rfl, h63, hmr, hnz, hmT⟩ := hc
  unfold Fits63 at h63
  have q0 : (0 : Int) ≤ (q : Int) := by omega
  have q1 : ¬ (((q + 1 : Nat) : Int) = 0) := by omega
  have q2 : (((q + 1 : Nat) : Int) == 0) = false := by simpa using q1
  have q3 : IntKind.i64.wrap (((q + 1 : Nat) : Int) - 1) = (q : Int) := by rw [IntKind.wrap_i64]; omega
  generalize hw1 : w.setCell ⟨g, 6, none⟩ (.int .i64 ((S.ops : Int) + 1)) = w1 at *
  have at1' : At w1 T g m k 59 (rcells m k S.mem.length S.wear.length (S.ops + 1) S.off true ((q + 1 : Nat) : Int) (.slice B n' z')) { S with ops := S.ops + 1 } := at1
  obtain ⟨_, _, _, d3, d4, d5, _⟩ := rl_cells at1'.str
  have s4 := at1'.str.soft 4
  obtain ⟨at2, o2⟩ := at_put at1' 4 (.int .i64 (q : Int)) (S' := { S with ops := S.ops + 1, cut := some (q, ms) }) rfl rfl (ok_cut (ok_ops hok) hcut)
  generalize hw2 : w1.setCell ⟨g, 4, none⟩ (.int .i64 (q : Int)) = W at *
  have atW : At W T g m k 59 (rcells m k S.mem.length S.wear.length (S.ops + 1) S.off true (q : Int) (.slice B n' z')) { S with ops := S.ops + 1, cut := some (q, ms) } := at2
  have hoW : Only (In3 g m k) w W := (only_g o1 : Only (In3 g m k) w w1).trans (only_g o2)
  have hmW : Row W B n' ms := row_keep (row_keep hmr o1 (fun x hx e => by have := hmT x hx; omega)) o2 (fun x hx e => by have := hmT x hx; omega)
  clear at1 o1 at1' at2 o2
  have hrW := row_clear hr hoW hA
  have hst : Laying m a S.mem zs [] n W (.int .i64 0) W := ⟨0, rfl, by omega, by rw [mixed_none]; exact atW.mem, Only.refl _ _⟩
  have hmid : ∀ wr, Only (fun b => b = m) W wr → wr.cell? ⟨g, 0, none⟩ = some (.slice (some ⟨m, 0, none⟩) S.mem.length S.mem.length) ∧ wr.cell? ⟨g, 5, none⟩ = some (.slice B n' z') ∧ Row wr A n zs ∧ Row wr B n' ms := fun wr o => by
    have hs := atW.str.only o (atW.ne (.inr rfl)).1
    exact ⟨hs.at 0, hs.at 5, row_clear hrW (only_m o) hA, row_keep hmW o (fun x hx e => by have := hmT x hx; omega)⟩
  have HMID := Lib.hid hmid
  have HAT := Lib.hid atW
  have HOW := Lib.hid hoW
  have HH := Lib.hid (show Byt zs ∧ zs.length = n ∧ Byt S.mem from ⟨hrb, hl, hok.byt⟩)
  clear hat hmid hr hrb hok hl hA hrW atW hoW c1 c2 c5 hmr hmW
  generalize hNe : S.mem.length = N at *
  have HN := Lib.hid hNe
  clear hNe
  go_enter Tryz.func80, Tryz.ntmps80
  go_wp2_with fail
  go_loopw [8] (fun i wr => Laying m a S.mem zs [] n W i wr) (fun i _ => n - (intOf i).toNat)
  case atStart => exact hst
  case round =>
    obtain ⟨j, rfl, hj, hbk, ho⟩ := hrel
    clear hst
    have j0 : (0 : Int) ≤ (j : Int) := by omega
    obtain ⟨c0, c5, hr, hmr⟩ := HMID.out wr ho
    by_cases hlt : j < n
    · have j1 : (j : Int) < (n : Int) := by omega
      obtain ⟨b, off, rfl, hw, hcell⟩ := row_open hr (by omega)
      have qb := hcell j hlt
      have hlen : a + j < (mixed S.mem a zs [] j).length := by rw [mixed_len, HN.out]; omega
      have qm := bk_byte hbk (a + j) hlen
      have qf := hbk.soft (a + j)
      have hlen2 : a + j < S.mem.length := by rw [HN.out]; omega
      rw [mixed_keep _ _ _ _ _ hlen2] at qm
      have hup := mixed_more S.mem a zs [] j hlen2
      rw [mAt_nil, mix_none (byt_at HH.out.2.2 _) (byt_at HH.out.1 _)] at hup
      obtain ⟨z1, z2, z3, z4⟩ := zero_facts (byt_at HH.out.1 j) (byt_at HH.out.2.2 (a + j))
      have i5 : (a : Int) + (j : Int) < (N : Int) := by omega
      have i6 : (0 : Int) ≤ (a : Int) + (j : Int) := by omega
      have e7 : ((a : Int) + (j : Int)).toNat = a + j := by omega
      generalize S.mem.getD (a + j) 0 = y at *
      generalize zs.getD j 0 = x at *
      have hup1 : Bk (wr.drew.setCell ⟨m, a + j, none⟩ (.int .u8 x)) m 5 (nums (mixed S.mem a zs [] (j + 1))) := by
        have := bk_put_byte hbk (a + j) hlen x
        rw [hup] at this
        exact this.keep rfl
      have o2 : Only (fun b => b = m) W (wr.drew.setCell ⟨m, a + j, none⟩ (.int .u8 x)) := ho.drew.setCell rfl _
      clear hcell hup hbk hr ho
      go_wp2_with fail
      go_region
      go_wp2
      go_roundw
      case rel => exact ⟨j + 1, by go_num, by omega, hup1, o2⟩
      case measure => simp [intOf]; omega
    · obtain rfl : j = n := by omega
      have F1 := at_mem HAT.out ho (mixed_byt HH.out.2.2 HH.out.1 byt_nil a j) (mixed_len ..) hbk
      rw [show mixed S.mem a zs [] j = put S.mem a zs [] by unfold put; rw [HH.out.2.1]] at F1
      have hx : (put S.mem a zs []).length = N := by rw [put_len, HN.out]
      go_wp2
      go_ret
      refine ⟨rfl, ⟨true, q, B, n', z', ?_, ?_⟩, HOW.out.trans (only_m ho)⟩
      · show At _ _ _ _ _ _ (rcells m k (put S.mem a zs []).length _ _ _ _ _ _) _
        rw [hx]
        exact F1
      · exact ⟨rfl, rfl, by unfold Fits63; omega, hmr, hnz, hmT⟩
set_option maxRecDepth 100000 in
set_option maxHeartbeats 2000000 in
theorem rturn_now {T g m k : Nat} {S : Fs} (ms : List Int) (hcut : S.cut = some (0, ms)) (hms : ms.length ≠ 0) (a : Nat) (A : Option Addr) (n z : Nat) (zs : List Int) (w : World) (hf : Rl w T g m k S) (hr : Row w A n zs) (ha : a + n ≤ S.mem.length) (hA : Clear g m k A n) (hops : S.ops ≤ 1000000) :
    Calls Tryz.prog 80 #[.pointer (some ⟨g, 0, none⟩), .int .i64 (a : Int), .slice A n z] w fun e w' => e = .returned (.int .i64 (work S a zs).1) ∧ RlTo T g m k (work S a zs).2 w w' := by
  rw [work_now hcut]
  have hok := hf.ok
  have hN : S.mem.length ≤ 128000 := by have := hok.len; have := hok.few; omega
  obtain ⟨c, h, B, n', z', hat, hc⟩ := hf
  rw [hcut] at hc
  have hl := hr.1
  have hrb := hr.2.1
  have i0 : (S.ops : Int) ≤ 1000000 := by omega
  obtain ⟨c0, c1, c2, c3, c4, c5, c6⟩ := rl_cells hat.str
  have s6 := hat.str.soft 6
  have hmT0 := hat.mT
  have hgT0 := hat.gT
  obtain ⟨at1, o1⟩ := at_put hat 6 (.int .i64 ((S.ops : Int) + 1)) (S' := { S with ops := S.ops + 1 }) rfl rfl (ok_ops hok)
  obtain ⟨rfl, rfl, h63, hmr, hnz, hmT⟩ := hc
  have hmk := hok.mask _ _ hcut
  have hml : n' ≤ 1000000 := by rw [← hmr.1]; exact hmk.2
  generalize hw1 : w.setCell ⟨g, 6, none⟩ (.int .i64 ((S.ops : Int) + 1)) = w1 at *
  have at1' : At w1 T g m k 59 (rcells m k S.mem.length S.wear.length (S.ops + 1) S.off true 0 (.slice B n' z')) { S with ops := S.ops + 1 } := at1
  obtain ⟨_, _, _, d3, d4, d5, _⟩ := rl_cells at1'.str
  have s4 := at1'.str.soft 4
  obtain ⟨at2, o2⟩ := at_put at1' 4 (.int .i64 (-1)) (S' := { S with ops := S.ops + 1 }) rfl rfl (ok_ops hok)
  generalize hw2 : w1.setCell ⟨g, 4, none⟩ (.int .i64 (-1)) = W at *
  have atW : At W T g m k 59 (rcells m k S.mem.length S.wear.length (S.ops + 1) S.off true (-1) (.slice B n' z')) { S with ops := S.ops + 1 } := at2
  have hoW : Only (In3 g m k) w W := (only_g o1 : Only (In3 g m k) w w1).trans (only_g o2)
  have hmW : Row W B n' ms := row_keep (row_keep hmr o1 (fun x hx e => by have := hmT x hx; omega)) o2 (fun x hx e => by have := hmT x hx; omega)
  clear at1 o1 at1' at2 o2
  have hn0 : ¬ (n' : Int) = 0 := by have := hmr.1; omega
  have hn1 : (0 : Int) < (n' : Int) := by omega
  have hn2 : 0 < n' := by omega
  have hn3 : ((n' : Int) == 0) = false := by simpa using hn0
  have hrW := row_clear hr hoW hA
  have hst : Laying m a S.mem zs ms n W (.int .i64 0) W := ⟨0, rfl, by omega, by rw [mixed_none]; exact atW.mem, Only.refl _ _⟩
  have hmid : ∀ wr, Only (fun b => b = m) W wr → wr.cell? ⟨g, 0, none⟩ = some (.slice (some ⟨m, 0, none⟩) S.mem.length S.mem.length) ∧ wr.cell? ⟨g, 5, none⟩ = some (.slice B n' z') ∧ Row wr A n zs ∧ Row wr B n' ms := fun wr o => by
    have hs := atW.str.only o (atW.ne (.inr rfl)).1
    exact ⟨hs.at 0, hs.at 5, row_clear hrW (only_m o) hA, row_keep hmW o (fun x hx e => by have := hmT x hx; omega)⟩
  have HMID := Lib.hid hmid
  have HAT := Lib.hid atW
  have HOW := Lib.hid hoW
  have HH := Lib.hid (show Byt zs ∧ zs.length = n ∧ Byt S.mem ∧ Byt ms from ⟨hrb, hl, hok.byt, hmk.1⟩)
  clear hat hmid hr hrb hok hl hA hrW atW hoW c1 c2 c5 hmr hmW
  generalize hNe : S.mem.length = N at *
  have HN := Lib.hid hNe
  clear hNe
  go_enter Tryz.func80, Tryz.ntmps80
  go_wp2_with fail
  go_loopw [8] (fun i wr => Laying m a S.mem zs ms n W i wr) (fun i _ => n - (intOf i).toNat)
  case atStart => exact hst
  case round =>
    obtain ⟨j, rfl, hj, hbk, ho⟩ := hrel
    clear hst
    have j0 : (0 : Int) ≤ (j : Int) := by omega
    obtain ⟨c0, c5, hr, hmr⟩ := HMID.out wr ho
    by_cases hlt : j < n
    · have j1 : (j : Int) < (n : Int) := by omega
      obtain ⟨b, off, rfl, hw, hcell⟩ := row_open hr (by omega)
      have qb := hcell j hlt
      have hlen : a + j < (mixed S.mem a zs ms j).length := by rw [mixed_len, HN.out]; omega
      have qm := bk_byte hbk (a + j) hlen
      have qf := hbk.soft (a + j)
      have hlen2 : a + j < S.mem.length := by rw [HN.out]; omega
      rw [mixed_keep _ _ _ _ _ hlen2] at qm
      have hup := mixed_more S.mem a zs ms j hlen2
      have HE := clear_is (byt_at HH.out.1 j) (mAt_byt HH.out.2.2.2 j)
      have hmt : mAt ms j = ms.getD (j % n') 0 := by unfold mAt; rw [if_neg (by have := hmr.1; omega), hmr.1]
      have hlt2 : j % n' < n' := Nat.mod_lt _ hn2
      obtain ⟨b2, off2, rfl, hw2, hcell2⟩ := row_open hmr hn2
      have q2 := hcell2 (j % n') hlt2
      rw [← hmt] at q2
      have ht := tmod_nat j n'
      have r0 : (0 : Int) ≤ ((j % n' : Nat) : Int) := by omega
      have r1 : ((j % n' : Nat) : Int) < (n' : Int) := by omega
      unfold mixI at hup
      clear hcell2 hmr hmt
      have i5 : (a : Int) + (j : Int) < (N : Int) := by omega
      have i6 : (0 : Int) ≤ (a : Int) + (j : Int) := by omega
      have e7 : ((a : Int) + (j : Int)).toNat = a + j := by omega
      generalize S.mem.getD (a + j) 0 = y at *
      generalize zs.getD j 0 = x at *
      generalize mAt ms j = s at *
      generalize j % n' = r at *
      have hup1 : Bk (wr.drew.drew.setCell ⟨m, a + j, none⟩ (.int .u8 (bits .or .u8 (bits .and .u8 y s) (bits .andNot .u8 x s)))) m 5 (nums (mixed S.mem a zs ms (j + 1))) := by
        have := bk_put_byte hbk (a + j) hlen (bits .or .u8 (bits .and .u8 y s) (bits .andNot .u8 x s))
        rw [hup] at this
        exact this.keep rfl
      have o2 : Only (fun b => b = m) W (wr.drew.drew.setCell ⟨m, a + j, none⟩ (.int .u8 (bits .or .u8 (bits .and .u8 y s) (bits .andNot .u8 x s)))) := ho.drew.drew.setCell rfl _
      clear hcell hup hbk hr ho
      go_wp2_with fail
      go_region
      go_wp2_with fail
      go_region
      go_wp2
      go_roundw
      case rel => exact ⟨j + 1, by go_num, by omega, hup1, o2⟩
      case measure => simp [intOf]; omega
    · obtain rfl : j = n := by omega
      have F1 := at_mem HAT.out ho (mixed_byt HH.out.2.2.1 HH.out.1 HH.out.2.2.2 a j) (mixed_len ..) hbk
      rw [show mixed S.mem a zs ms j = put S.mem a zs ms by unfold put; rw [HH.out.2.1]] at F1
      have hx : (put S.mem a zs ms).length = N := by rw [put_len, HN.out]
      obtain ⟨at3, o3⟩ := at_put F1 2 (.bool true) (S' := { S with mem := put S.mem a zs ms, ops := S.ops + 1, off := true }) rfl rfl (ok_off F1.ok true)
      have c2 : wr.cell? ⟨g, 2, none⟩ = some (.bool S.off) := F1.str.at 2
      have s2 := F1.str.soft 2
      generalize hw3 : wr.setCell ⟨g, 2, none⟩ (.bool true) = w3 at *
      have c3 : w3.cell? ⟨g, 3, none⟩ = some (.bool true) := at3.str.at 3
      have s3 := at3.str.soft 3
      obtain ⟨at4, o4⟩ := at_put at3 3 (.bool false) (S' := { S with mem := put S.mem a zs ms, ops := S.ops + 1, off := true, cut := none }) rfl rfl (ok_none at3.ok)
      have HA4 := Lib.hid at4
      have HO4 := Lib.hid (show Only (In3 g m k) w (w3.setCell ⟨g, 3, none⟩ (.bool false)) from ((HOW.out.trans (only_m ho)).trans (only_g o3)).trans (only_g o4))
      clear at4 o4 at3 o3 F1
      go_wp2
      go_ret
      refine ⟨rfl, ⟨false, -1, B, n', z', ?_, rfl⟩, HO4.out⟩
      show At _ _ _ _ _ _ (rcells m k (put S.mem a zs ms).length _ _ _ _ _ _) _
      rw [hx]
      exact HA4.out
set_option maxRecDepth 100000 in
set_option maxHeartbeats 2000000 in
theorem rturn_bare {T g m k : Nat} {S : Fs} (hcut : S.cut = some (0, [])) (a : Nat) (A : Option Addr) (n z : Nat) (zs : List Int) (w : World) (hf : Rl w T g m k S) (hr : Row w A n zs) (ha : a + n ≤ S.mem.length) (hA : Clear g m k A n) (hops : S.ops ≤ 1000000) :
    Calls Tryz.prog 80 #[.pointer (some ⟨g, 0, none⟩), .int .i64 (a : Int), .slice A n z] w fun e w' => e = .returned (.int .i64 (work S a zs).1) ∧ RlTo T g m k (work S a zs).2 w w' := by
  rw [work_now hcut]
  have hok := hf.ok
  have hN : S.mem.length ≤ 128000 := by have := hok.len; have := hok.few; omega
  obtain ⟨c, h, B, n', z', hat, hc⟩ := hf
  rw [hcut] at hc
  have hl := hr.1
  have hrb := hr.2.1
  have i0 : (S.ops : Int) ≤ 1000000 := by omega
  obtain ⟨c0, c1, c2, c3, c4, c5, c6⟩ := rl_cells hat.str
  have s6 := hat.str.soft 6
  have hmT0 := hat.mT
  have hgT0 := hat.gT
  obtain ⟨at1, o1⟩ := at_put hat 6 (.int .i64 ((S.ops : Int) + 1)) (S' := { S with ops := S.ops + 1 }) rfl rfl (ok_ops hok)
  obtain ⟨rfl, rfl, h63, hmr, hnz, hmT⟩ := hc
  have hmk := hok.mask _ _ hcut
  have hml : n' ≤ 1000000 := by rw [← hmr.1]; exact hmk.2
  generalize hw1 : w.setCell ⟨g, 6, none⟩ (.int .i64 ((S.ops : Int) + 1)) = w1 at *
  have at1' : At w1 T g m k 59 (rcells m k S.mem.length S.wear.length (S.ops + 1) S.off true 0 (.slice B n' z')) { S with ops := S.ops + 1 } := at1
  obtain ⟨_, _, _, d3, d4, d5, _⟩ := rl_cells at1'.str
  have s4 := at1'.str.soft 4
  obtain ⟨at2, o2⟩ := at_put at1' 4 (.int .i64 (-1)) (S' := { S with ops := S.ops + 1 }) rfl rfl (ok_ops hok)
  generalize hw2 : w1.setCell ⟨g, 4, none⟩ (.int .i64 (-1)) = W at *
  have atW : At W T g m k 59 (rcells m k S.mem.length S.wear.length (S.ops + 1) S.off true (-1) (.slice B n' z')) { S with ops := S.ops + 1 } := at2
  have hoW : Only (In3 g m k) w W := (only_g o1 : Only (In3 g m k) w w1).trans (only_g o2)
  have hmW : Row W B n' ([] : List Int) := row_keep (row_keep hmr o1 (fun x hx e => by have := hmT x hx; omega)) o2 (fun x hx e => by have := hmT x hx; omega)
  clear at1 o1 at1' at2 o2
  have hn0 : n' = 0 := hmr.1.symm
  have hn1 : ¬ (0 : Int) < (n' : Int) := by omega
  have hn2 : ¬ 0 < n' := by omega
  have hrW := row_clear hr hoW hA
  have hst : Laying m a S.mem zs [] n W (.int .i64 0) W := ⟨0, rfl, by omega, by rw [mixed_none]; exact atW.mem, Only.refl _ _⟩
  have hmid : ∀ wr, Only (fun b => b = m) W wr → wr.cell? ⟨g, 0, none⟩ = some (.slice (some ⟨m, 0, none⟩) S.mem.length S.mem.length) ∧ wr.cell? ⟨g, 5, none⟩ = some (.slice B n' z') ∧ Row wr A n zs := fun wr o => by
    have hs := atW.str.only o (atW.ne (.inr rfl)).1
    exact ⟨hs.at 0, hs.at 5, row_clear hrW (only_m o) hA⟩
  have HMID := Lib.hid hmid
  have HAT := Lib.hid atW
  have HOW := Lib.hid hoW
  have HH := Lib.hid (show Byt zs ∧ zs.length = n ∧ Byt S.mem from ⟨hrb, hl, hok.byt⟩)
  clear hat hmid hr hrb hok hl hA hrW atW hoW c1 c2 c5 hmr hmW
  generalize hNe : S.mem.length = N at *
  have HN := Lib.hid hNe
  clear hNe
  go_enter Tryz.func80, Tryz.ntmps80
  go_wp2_with fail
  go_loopw [8] (fun i wr => Laying m a S.mem zs [] n W i wr) (fun i _ => n - (intOf i).toNat)
  case atStart => exact hst
  case round =>
    obtain ⟨j, rfl, hj, hbk, ho⟩ := hrel
    clear hst
    have j0 : (0 : Int) ≤ (j : Int) := by omega
    obtain ⟨c0, c5, hr⟩ := HMID.out wr ho
    by_cases hlt : j < n
    · have j1 : (j : Int) < (n : Int) := by omega
      obtain ⟨b, off, rfl, hw, hcell⟩ := row_open hr (by omega)
      have qb := hcell j hlt
      have hlen : a + j < (mixed S.mem a zs [] j).length := by rw [mixed_len, HN.out]; omega
      have qm := bk_byte hbk (a + j) hlen
      have qf := hbk.soft (a + j)
      have hlen2 : a + j < S.mem.length := by rw [HN.out]; omega
      rw [mixed_keep _ _ _ _ _ hlen2] at qm
      have hup := mixed_more S.mem a zs [] j hlen2
      rw [mAt_nil, mix_none (byt_at HH.out.2.2 _) (byt_at HH.out.1 _)] at hup
      obtain ⟨z1, z2, z3, z4⟩ := zero_facts (byt_at HH.out.1 j) (byt_at HH.out.2.2 (a + j))
      have i5 : (a : Int) + (j : Int) < (N : Int) := by omega
      have i6 : (0 : Int) ≤ (a : Int) + (j : Int) := by omega
      have e7 : ((a : Int) + (j : Int)).toNat = a + j := by omega
      generalize S.mem.getD (a + j) 0 = y at *
      generalize zs.getD j 0 = x at *
      have hup1 : Bk (wr.drew.setCell ⟨m, a + j, none⟩ (.int .u8 x)) m 5 (nums (mixed S.mem a zs [] (j + 1))) := by
        have := bk_put_byte hbk (a + j) hlen x
        rw [hup] at this
        exact this.keep rfl
      have o2 : Only (fun b => b = m) W (wr.drew.setCell ⟨m, a + j, none⟩ (.int .u8 x)) := ho.drew.setCell rfl _
      clear hcell hup hbk hr ho
      go_wp2_with fail
      go_region
      go_wp2
      go_roundw
      case rel => exact ⟨j + 1, by go_num, by omega, hup1, o2⟩
      case measure => simp [intOf]; omega
    · obtain rfl : j = n := by omega
      have F1 := at_mem HAT.out ho (mixed_byt HH.out.2.2 HH.out.1 byt_nil a j) (mixed_len ..) hbk
      rw [show mixed S.mem a zs [] j = put S.mem a zs [] by unfold put; rw [HH.out.2.1]] at F1
      have hx : (put S.mem a zs []).length = N := by rw [put_len, HN.out]
      obtain ⟨at3, o3⟩ := at_put F1 2 (.bool true) (S' := { S with mem := put S.mem a zs [], ops := S.ops + 1, off := true }) rfl rfl (ok_off F1.ok true)
      have c2 : wr.cell? ⟨g, 2, none⟩ = some (.bool S.off) := F1.str.at 2
      have s2 := F1.str.soft 2
      generalize hw3 : wr.setCell ⟨g, 2, none⟩ (.bool true) = w3 at *
      have c3 : w3.cell? ⟨g, 3, none⟩ = some (.bool true) := at3.str.at 3
      have s3 := at3.str.soft 3
      obtain ⟨at4, o4⟩ := at_put at3 3 (.bool false) (S' := { S with mem := put S.mem a zs [], ops := S.ops + 1, off := true, cut := none }) rfl rfl (ok_none at3.ok)
      have HA4 := Lib.hid at4
      have HO4 := Lib.hid (show Only (In3 g m k) w (w3.setCell ⟨g, 3, none⟩ (.bool false)) from ((HOW.out.trans (only_m ho)).trans (only_g o3)).trans (only_g o4))
      clear at4 o4 at3 o3 F1
      go_wp2
      go_ret
      refine ⟨rfl, ⟨false, -1, B, n', z', ?_, rfl⟩, HO4.out⟩
      show At _ _ _ _ _ _ (rcells m k (put S.mem a zs []).length _ _ _ _ _ _) _
      rw [hx]
      exact HA4.out
end Go.Proofs.YtklhmneapegfpaaGreatDoor
