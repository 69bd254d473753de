/-
  Several texts in one: MfBt, MfSg, MfRs, MfRm, MfRg, MfLv, MfYe, MfMa; each says its own conditions.
-/
import Derived.Test.YtcokpdhhpaahgaaDoorMMa
import Derived.Test.YtcokpdhhpaahgaaDoorMShb
import Derived.Deep.RegionHeld3
import Derived.Deep.Strs
import Derived.ProofKit
namespace Go.Proofs.YtcokpdhhpaahgaaDoor.Man
open Go.RowKit
set_option linter.unusedVariables false
set_option linter.unusedSimpArgs false

theorem byteL_is (ks : List Int) (m : Mn) : byteL ks m = bodyL m ++ Sha.tagI ks (bodyL m) := rfl
theorem tag_byt {ks bs : List Int} (hk : Byt ks) (hb : Byt bs) : Byt (Sha.tagI ks bs) := Sha.byt_sha (Sha.byt_app (Sha.byt_keyed hk (by omega)) (Sha.byt_sha (Sha.byt_app (Sha.byt_keyed hk (by omega)) hb)))
set_option maxRecDepth 100000 in
set_option maxHeartbeats 1000000 in
theorem rmbytes_any (a : Option Addr) (n cap : Nat) (ks : List Int) (m : Mn) (w : World) (hk : Row w a n ks) (hcap : n ≤ cap) (hn : n ≤ 1000000) (hm : m.Ok) :
    Calls Tryd.prog 18 #[.slice a n cap, .agg m.cells] w (Gives 92 (byteL ks m) w) := by
  have hz2 := Sha.zero24_run
  have ba : Below w.heap.size w (w.alloc (.cells m.cells 52)) := (Below.refl _ _).alloc (Nat.le_refl _) _
  have h0 := has_new w 52 m.cells
  have hl := Lib.hid hm.1
  have HB := Lib.hid (rbody_any m (w.alloc (.cells m.cells 52)) hm)
  have HBY := Lib.hid (tag_byt hk.2.1 (body_byt hm.2.1))
  have HTL := Lib.hid (Sha.tag_len ks (bodyL m))
  clear hm
  rw [byteL_is]
  go_enter Tryd.func18, Tryd.ntmps18
  go_wp2_with (first
    | (refine wpList_load_row rfl 52 _ rfl w.heap.size rfl 52 _ (0, 0) _ h0 Tryd.underlying52 rfl (size27 hl.out) ?_)
    | (go_at_call 36; (with_reducible refine HB.out.mono ?_); rintro e w1 ⟨v1, rfl, o1, b1⟩; clear HB; have b1' := ba.trans (b1.mono ba.size); have o1' := o1.lower ba.size; obtain ⟨A1, c1, rfl, hc1, r1, _⟩ := o1.form; have HT := Lib.hid (Sha.rtag_any a n cap ks A1 60 c1 (bodyL m) w1 (row_sha (row_below b1' hk)) (row_sha r1) hcap hc1 hn (by omega)))
    | (go_at_call 37; (with_reducible refine HT.out.mono ?_); rintro e w2 ⟨rfl, b2⟩; clear HT; have b2' := b1'.trans (b2.mono b1'.size); have o2 := o1'.kept b2; have hne := has_new w2 22 Sha.zero24)
    | (refine Sha.wpList_row rfl 22 _ _ rfl w2.heap.size (Sha.nums (Sha.tagI ks (bodyL m))).toArray rfl rfl 22 _ hne (Sha.size24 HTL.out) (by rw [Sha.zero24_size, List.size_toArray, Sha.nums_len, HTL.out]) (Sha.nums_all _) ?_; intro w3 hs3 hon3; have b3 := Sha.below_only (b2'.alloc b2'.size (.cells Sha.zero24 22)) hon3 b2'.size (b2'.alloc b2'.size (.cells Sha.zero24 22)).size; have o3 : Own w3 w.heap.size (.slice A1 60 c1) 60 (bodyL m) := (o2.kept ((Below.refl _ _).alloc (Nat.le_refl _) (.cells Sha.zero24 22))).stay (fun g hg => hon3.block g (by have := o2.lt g hg; simp; omega) (by have := o2.lt g hg; intro e; injection e; omega)); have r3 : Row w3 (some ⟨w2.heap.size, 0, none⟩) 32 (Sha.tagI ks (bodyL m)) := sha_row (Sha.has_row hs3 HTL.out HBY.out))
    | (at_builtin; refine wpList_app rfl _ _ rfl w.heap.size _ _ _ rfl o3 _ _ _ _ rfl r3 (row_none r3) (by omega) b3.size ?_; intro v4 w4 o4 g4; have b4 := below_own b3 o3 g4 (Nat.le_refl _) b3.size; obtain ⟨A4, c4, rfl, _, _, _⟩ := o4.form))
  go_ret
  exact ⟨_, rfl, o4, b4⟩
end Go.Proofs.YtcokpdhhpaahgaaDoor.Man

namespace Go.Proofs.YtcokpdhhpaahgaaDoor.Man
open Go.RowKit
set_option linter.unusedVariables false
set_option linter.unusedSimpArgs false

theorem readM_len (zs : List Int) : (readM zs).dig.length = 32 := by
  by_cases h : Good zs
  · rw [readM_yes h]; exact dig_len h.1
  · rw [readM_no h]; exact zero_len
theorem sign_no {ks zs : List Int} (h : ¬ Good zs) : signB ks zs = false := by unfold signB; rw [decide_eq_false h]; rfl
theorem sign_yes {ks zs : List Int} (h : Good zs) : signB ks zs = decide (zs.drop 60 = Sha.tagI ks (zs.take 60)) := by unfold signB; rw [decide_eq_true h, Bool.true_and]
end Go.Proofs.YtcokpdhhpaahgaaDoor.Man

namespace Go.Proofs.YtcokpdhhpaahgaaDoor.Man
open Go.RowKit
set_option linter.unusedVariables false
set_option linter.unusedSimpArgs false

/-- What is left behind k bytes. -/
def St (zs : List Int) (k : Nat) : Rs := if k ≤ zs.length then ⟨zs.drop k, false⟩ else ⟨[], true⟩
theorem st_zero (zs : List Int) : St zs 0 = ⟨zs, false⟩ := by unfold St; rw [if_pos (Nat.zero_le _)]; rfl
theorem st_aft (zs : List Int) (k n : Nat) (h : 0 < n) : aft (St zs k) n = St zs (k + n) := by
  unfold St
  by_cases hk : k ≤ zs.length
  · rw [if_pos hk]
    by_cases hn : k + n ≤ zs.length
    · rw [if_pos hn, aft_yes rfl (by simp only [List.length_drop]; omega)]
      simp only [List.drop_drop]
    · rw [if_neg hn, aft_short (by simp only [List.length_drop]; omega)]
  · rw [if_neg hk, if_neg (by omega), aft_bad rfl]
theorem st_got {zs : List Int} {k n : Nat} (h : k + n ≤ zs.length) : got (St zs k) n = (zs.drop k).take n := by
  unfold St
  rw [if_pos (by omega), got_yes rfl (by simp only [List.length_drop]; omega)]
theorem st_low {zs : List Int} {k : Nat} (h : zs.length < k) : (St zs k).bad = true := by unfold St; rw [if_neg (by omega)]
theorem st_fine {zs : List Int} {k : Nat} (h : k ≤ zs.length) : (St zs k).bad = false ∧ (St zs k).rest.length = zs.length - k := by
  unfold St
  rw [if_pos h]
  exact ⟨rfl, List.length_drop⟩
theorem drr_k {p T : Nat} {zs : List Int} (k n : Nat) (s : Int) (hs : cutN s 1000 = n) (h0 : 0 < n) (w : World) (hS : Rr w p T (St zs k)) :
    Calls Tryd.prog 66 #[.pointer (some ⟨p, 0, none⟩), .int .i64 s] w (GivesR (got (St zs k) n) w (RrTo p T (St zs (k + n)) w)) := by
  have h := rraw_any s w hS
  rw [hs, st_aft zs k n h0] at h
  exact h
theorem drn_k {p T : Nat} {zs : List Int} (k : Nat) (w : World) (hS : Rr w p T (St zs k)) :
    Calls Tryd.prog 67 #[.pointer (some ⟨p, 0, none⟩), .int .i64 4] w (GivesN (w64 (val (got (St zs k) 4))) (RrTo p T (St zs (k + 4)) w)) := by
  have h := rnum_any 4 w hS
  rw [cutN48, st_aft zs k 4 (by omega)] at h
  exact h
theorem rleft_any {p T : Nat} {S : Rs} (w : World) (hS : Rr w p T S) : Calls Tryd.prog 69 #[.pointer (some ⟨p, 0, none⟩)] w fun e w' => e = .returned (.int .i64 (S.rest.length : Int)) ∧ w = w' := by
  obtain ⟨hok, hT, hle, A, n, c, zs, hh, hr, hc, hA, hz⟩ := hS
  have q0 : w.cell? ⟨p, 0, none⟩ = some (.slice A n c) := hh.at 0
  have q1 : w.cell? ⟨p, 1, none⟩ = some (.bool S.bad) := hh.at 1
  cases hb : S.bad with
  | false =>
    rw [hb] at q1
    have hl := hr.1
    rw [hz hb] at hl
    rw [hl]
    go_enter Tryd.func69, Tryd.ntmps69
    go_wp2
    go_ret
    exact ⟨rfl, rfl⟩
  | true =>
    rw [hb] at q1
    rw [hok.2 hb]
    go_enter Tryd.func69, Tryd.ntmps69
    go_wp2
    go_ret
    exact ⟨rfl, rfl⟩
theorem rbad_any {p T : Nat} {S : Rs} (w : World) (hS : Rr w p T S) : Calls Tryd.prog 68 #[.pointer (some ⟨p, 0, none⟩)] w fun e w' => e = .returned (.bool S.bad) ∧ w = w' := by
  obtain ⟨hok, hT, hle, A, n, c, zs, hh, hr, hc, hA, hz⟩ := hS
  have q1 : w.cell? ⟨p, 1, none⟩ = some (.bool S.bad) := hh.at 1
  go_enter Tryd.func68, Tryd.ntmps68
  go_wp2
  go_ret
  exact ⟨rfl, rfl⟩
theorem row_not {w w' : World} {p B : Nat} {a : Option Addr} {n : Nat} {zs : List Int} (h : Row w a n zs) (o : Only (fun b => b = p) w w') (hB : ∀ x, a = some x → B ≤ x.block ∧ x.block < w.heap.size) (hp : p < B) : Row w' a n zs :=
  row_keep h o (fun x hx e => by have := (hB x hx).1; omega)
theorem _root_.Go.Proofs.YtcokpdhhpaahgaaDoor.Rr.at {w : World} {p T : Nat} {S : Rs} (h : Rr w p T S) : p < w.heap.size := by
  obtain ⟨_, _, _, A, n, c, zs, h4, _⟩ := h
  exact h4.size
/-- The mark, as a text. -/
theorem mark_txt : strOfNums markL = ⟨#[87, 76, 77, 49]⟩ := rfl
end Go.Proofs.YtcokpdhhpaahgaaDoor.Man

namespace Go.Proofs.YtcokpdhhpaahgaaDoor.Man
open Go.RowKit
set_option linter.unusedVariables false
set_option linter.unusedSimpArgs false

theorem num_st {zs : List Int} (k : Nat) (hb : Byt zs) (h : k + 4 ≤ zs.length) : w64 (val (got (St zs k) 4)) = val ((zs.drop k).take 4) := by
  rw [st_got h, val_four (byt_take (byt_drop hb _) _) (by rw [List.length_take, List.length_drop]; omega)]
theorem str_small {zs : List Int} (h : zs.length ≤ 1000) : (strOfNums zs).size ≤ maxLen := by rw [strOfNums_size]; unfold maxLen; omega
theorem wpList_build25 {w : World} {ops : Array Oper} {rest : List Oper} {o : Oper} {a : Act} {Q : Exit → Act → World → Prop} (hg : o.guard = none) (x y : Operand) (ho : o.op = .build 24 #[(0, x), (1, y)]) (v n : Int)
    (hx : a.eval x = .int .i64 v) (hy : a.eval y = .int .i64 n) (h : wpList Tryd.prog ops Q rest (a.put o.dst (.agg (imgC v n (List.replicate 32 0)))) w) : wpList Tryd.prog ops Q (o :: rest) a w := by
  refine Sha.wpList_build_to hg 24 _ ho _ ?_ h
  have e : (Array.map (fun (i, x) => (i, a.eval x)) #[(0, x), (1, y)]).toList = [(0, .int .i64 v), (1, .int .i64 n)] := by simp [hx, hy]
  rw [e]
  exact built25 v n
theorem wpList_build27 {w : World} {ops : Array Oper} {rest : List Oper} {o : Oper} {a : Act} {Q : Exit → Act → World → Prop} (hg : o.guard = none) (x y : Operand) (ho : o.op = .build 52 #[(0, x), (1, y)]) (s : ByteArray) (v n : Int)
    (hx : a.eval x = .string s) (hy : a.eval y = .agg (imgC v n (List.replicate 32 0))) (h : wpList Tryd.prog ops Q rest (a.put o.dst (.agg (Mn.cells ⟨s, v, n, List.replicate 32 0⟩))) w) : wpList Tryd.prog ops Q (o :: rest) a w := by
  refine Sha.wpList_build_to hg 52 _ ho _ ?_ h
  have e : (Array.map (fun (i, x) => (i, a.eval x)) #[(0, x), (1, y)]).toList = [(0, .string s), (1, .agg (imgC v n (List.replicate 32 0)))] := by simp [hx, hy]
  rw [e]
  exact built27i s v n
theorem mark_not {hd : List Int} (h : Byt hd) (hm : hd ≠ markL) : ¬ (strOfNums hd).toList = [87, 76, 77, 49] := by
  intro e
  apply hm
  apply (str_same h byt_mark).1
  apply ByteArray.ext
  apply Array.toList_inj.1
  rw [← ByteArray.toList_eq, e]
  rfl
/-- What the law's tests see. -/
structure Seen (zs hd xs : List Int) (k : Nat) (v n : Int) : Prop where
  len : zs.length = 92
  head : hd = zs.take 4
  name : xs.take k = nameL zs
  ver : v = verL zs
  siz : n = sizL zs
theorem good_seen {zs hd xs : List Int} {k : Nat} {v n : Int} (h : Seen zs hd xs k v n) : Good zs ↔ hd = markL ∧ Nam.validL (Nam.all (strOfNums (xs.take k))) = true ∧ Num v ∧ Num n := by
  rw [h.head, h.name, h.ver, h.siz]
  exact ⟨fun g => ⟨g.2.1, g.2.2.1, g.2.2.2.1, g.2.2.2.2⟩, fun ⟨a, b, c, d⟩ => ⟨h.len, a, b, c, d⟩⟩
set_option maxRecDepth 100000 in
set_option maxHeartbeats 20000000 in
theorem rread_any (A : Option Addr) (n c : Nat) (zs : List Int) (w : World) (hr : Row w A n zs) (hc : n ≤ c) (hn : n ≤ 1000000) : Calls Tryd.prog 46 #[.slice A n c] w (ReadsM zs w) := by
  have hz27 := zero27_run
  have hl := hr.1
  have HB := Lib.hid hr.2.1
  have ba : Below w.heap.size w (w.alloc (.cells zeroM.cells 52)) := (Below.refl _ _).alloc (Nat.le_refl _) _
  have h0 := has_new w 52 zeroM.cells
  have HNR0 := rnewReader_any A n c zs _ (row_below ba hr) hn hc w.heap.size ba.size (row_lies hr)
  simp only [World.size_alloc] at HNR0
  obtain ⟨p, hp⟩ : ∃ p, w.heap.size + 1 = p := ⟨_, rfl⟩
  rw [hp] at HNR0
  have HNR := Lib.hid HNR0
  have hsz : (w.alloc (.cells zeroM.cells 52)).heap.size = p := by rw [World.size_alloc, hp]
  clear HNR0
  clear hr
  go_enter Tryd.func46, Tryd.ntmps46
  go_wp2_with (first
    | (go_at_call 65; (with_reducible refine HNR.out.mono ?_); rintro e w1 ⟨rfl, d1, b1⟩; clear HNR; have h1 := h0.below b1 (by omega); have c1 := ba.trans (b1.mono (by omega)); have s1 := b1.size; have hp1 := d1.at; rw [← st_zero zs] at d1; have HQ1 := Lib.hid (drr_k 0 4 4 cut4 (by omega) w1 d1))
    | (go_at_call 66; (with_reducible refine HQ1.out.mono ?_); rintro e w2 ⟨v6, rfl, o6, t6⟩; clear HQ1; obtain ⟨A6, c6, rfl, hc6, r6, k6⟩ := o6.form; clear o6; have h2 := h1.only t6.2 (by omega); have c2 : Below w.heap.size w w2 := c1.trans (t6.2.to_below c1.size (fun b e => by omega)); have s2 := t6.2.size; have HQ2 := Lib.hid (drr_k 4 16 16 cut16 (by omega) w2 t6.1))
    | (go_at_call 66; (with_reducible refine HQ2.out.mono ?_); rintro e w3 ⟨v7, rfl, o7, t7⟩; clear HQ2; obtain ⟨A7, c7, rfl, hc7, r7, k7⟩ := o7.form; clear o7; have h3 := h2.only t7.2 (by omega); have c3 : Below w.heap.size w w3 := c2.trans (t7.2.to_below c2.size (fun b e => by omega)); have s3 := t7.2.size; have r6a := row_not r6 t7.2 k6 (by omega); have HQ3 := Lib.hid (drn_k 20 w3 t7.1))
    | (go_at_call 67; (with_reducible refine HQ3.out.mono ?_); rintro e w4 ⟨rfl, t8⟩; clear HQ3; have h4 := h3.only t8.2 (by omega); have c4 : Below w.heap.size w w4 := c3.trans (t8.2.to_below c3.size (fun b e => by omega)); have s4 := t8.2.size; have r6b := row_not r6a t8.2 (fun x hx => ⟨(k6 x hx).1, by have := (k6 x hx).2; omega⟩) (by omega); have r7b := row_not r7 t8.2 k7 (by omega); have HQ4 := Lib.hid (drn_k 24 w4 t8.1))
    | (go_at_call 67; (with_reducible refine HQ4.out.mono ?_); rintro e w5 ⟨rfl, t9⟩; clear HQ4; have h5 := h4.only t9.2 (by omega); have c5 : Below w.heap.size w w5 := c4.trans (t9.2.to_below c4.size (fun b e => by omega)); have s5 := t9.2.size; have r6c := row_not r6b t9.2 (fun x hx => ⟨(k6 x hx).1, by have := (k6 x hx).2; omega⟩) (by omega); have r7c := row_not r7b t9.2 (fun x hx => ⟨(k7 x hx).1, by have := (k7 x hx).2; omega⟩) (by omega); have HQ5 := Lib.hid (drr_k 28 32 32 cut32 (by omega) w5 t9.1))
    | (go_at_call 66; (with_reducible refine HQ5.out.mono ?_); rintro e w6 ⟨v10, rfl, o10, t10⟩; clear HQ5; obtain ⟨A10, c10, rfl, hc10, r10, k10⟩ := o10.form; clear o10; have h6 := h5.only t10.2 (by omega); have c6' : Below w.heap.size w w6 := c5.trans (t10.2.to_below c5.size (fun b e => by omega)); have s6 := t10.2.size; have r6d := row_not r6c t10.2 (fun x hx => ⟨(k6 x hx).1, by have := (k6 x hx).2; omega⟩) (by omega); have r7d := row_not r7c t10.2 (fun x hx => ⟨(k7 x hx).1, by have := (k7 x hx).2; omega⟩) (by omega); have HQ6 := Lib.hid (drr_k 60 32 32 cut32 (by omega) w6 t10.1))
    | (go_at_call 66; (with_reducible refine HQ6.out.mono ?_); rintro e w7 ⟨v11, rfl, o11, t11⟩; clear HQ6; have h7 := h6.only t11.2 (by omega); have c7' : Below w.heap.size w w7 := c6'.trans (t11.2.to_below c6'.size (fun b e => by omega)); have s7 := t11.2.size; have r6e := row_not r6d t11.2 (fun x hx => ⟨(k6 x hx).1, by have := (k6 x hx).2; omega⟩) (by omega); have r7e := row_not r7d t11.2 (fun x hx => ⟨(k7 x hx).1, by have := (k7 x hx).2; omega⟩) (by omega); have r10e := row_not r10 t11.2 k10 (by omega)))
  have d7 := t11.1
  have HD7 := Lib.hid d7
  have HR6 := Lib.hid r6e
  have HR7 := Lib.hid r7e
  have HR10 := Lib.hid r10e
  have HO11 := Lib.hid (o11.lower (base' := p) (by omega))
  have HH7 := Lib.hid h7
  have HC7 := Lib.hid c7'
  have HL6 := Lib.hid (got_len (St zs 0) 4)
  have HL7 := Lib.hid (got_len (St zs 4) 16)
  have HSN := Lib.hid (show zs.length = 92 → got (St zs 0) 4 = zs.take 4 ∧ (got (St zs 4) 16).length = 16 ∧ got (St zs 4) 16 = (zs.drop 4).take 16 ∧ w64 (val (got (St zs 20) 4)) = verL zs ∧ w64 (val (got (St zs 24) 4)) = sizL zs ∧ got (St zs 28) 32 = digL zs ∧ got (St zs 60) 32 = zs.drop 60 from fun h => ⟨st_got (by omega), by rw [st_got (by omega), List.length_take, List.length_drop]; omega, st_got (by omega), num_st 20 HB.out (by omega), num_st 24 HB.out (by omega), st_got (by omega), by rw [st_got (by omega), List.take_of_length_le (by rw [List.length_drop]; omega)]⟩)
  clear h1 h2 h3 h4 h5 h6 h7 c1 c2 c3 c4 c5 c6' c7' t6 t7 t8 t9 t10 t11 r6 r6a r6b r6c r6d r6e r7 r7b r7c r7d r7e r10 r10e k6 k7 k10 o11 d7 d1 b1 s1 s2 s3 s4 s5 s6 s7 h0 ba hsz
  obtain ⟨A11, c11, rfl, _, _, _⟩ := HO11.out.form
  generalize hq0 : got (St zs 0) 4 = hd at *
  generalize hq4 : got (St zs 4) 16 = xs at *
  generalize hq20 : w64 (val (got (St zs 20) 4)) = ver at *
  generalize hq24 : w64 (val (got (St zs 24) 4)) = siz at *
  generalize hq28 : got (St zs 28) 32 = dg at *
  generalize hq60 : got (St zs 60) 32 = tg at *
  clear hq0 hq4 hq20 hq24 hq28 hq60
  obtain ⟨L, hL⟩ : ∃ L, xs.length = L := ⟨_, rfl⟩
  rw [hL] at HR7 HL7 HSN hc7
  have HLN := Lib.hid hL
  obtain ⟨L6, e6⟩ : ∃ L, hd.length = L := ⟨_, rfl⟩
  obtain ⟨L10, e10⟩ : ∃ L, dg.length = L := ⟨_, rfl⟩
  obtain ⟨L11, e11⟩ : ∃ L, tg.length = L := ⟨_, rfl⟩
  have E6 := Lib.hid e6
  have E10 := Lib.hid e10
  have E11 := Lib.hid e11
  rw [e6] at HR6 hc6
  rw [e10] at HR10 hc10
  rw [e11] at HO11
  rw [hL, e6, e10, e11]
  have HZL := Lib.hid hl
  have hL16 : L ≤ 16 := HL7.out
  have hL2 : trimN xs xs.length = trimN xs L := by rw [hL]
  have HL2 := Lib.hid hL2
  clear hL hL2 e6 e10 e11 HL6
  go_loopw [7] (fun v wr => ∃ k : Nat, v = .slice A7 k c7 ∧ k ≤ L ∧ Hid (trimN xs k = trimN xs L) ∧ wr = w7) (fun v _ => sLen v)
  case atStart => exact ⟨L, rfl, Nat.le_refl _, Lib.hid rfl, rfl⟩
  case round =>
    obtain ⟨k, rfl, hk, HT, rfl⟩ := hrel
    have hk3 : k ≤ 16 := by omega
    cases k with
    | zero =>
      have HK := Lib.hid (show trimN xs L = 0 by rw [← HT.out]; rfl)
      by_cases h92 : zs.length = 92
      · obtain ⟨g1, g2, g3, g4, g5, g6, g7⟩ := HSN.out h92
        have HBD := Lib.hid (rbad_any wr HD7.out)
        have HLF := Lib.hid (rleft_any wr HD7.out)
        rw [(st_fine (by omega)).1] at HBD
        rw [(st_fine (by omega)).2, h92] at HLF
        have HSE := Lib.hid (show Seen zs hd xs (0) ver siz from ⟨h92, g1, by unfold nameL trimL; rw [← g3, HL2.out, HK.out], g4, g5⟩)
        have HG4 := Lib.hid g4
        have HG5 := Lib.hid g5
        have HG6 := Lib.hid g6
        have HG7 := Lib.hid g7
        have H92 := Lib.hid h92
        obtain rfl : L6 = 4 := by rw [← E6.out, g1, List.length_take]; omega
        obtain rfl : L10 = 32 := by rw [← E10.out, g6]; exact dig_len h92
        obtain rfl : L11 = 32 := by rw [← E11.out, g7, List.length_drop]; omega
        clear g1 g2 g3 g4 g5 g6 g7 h92 hl HSN
        have hch := conv_row (c := c6) HR6.out
        have hcn := conv_row (c := c7) (row_upto HR7.out (0) (by omega))
        have HST := Lib.hid (str_small (zs := xs.take (0)) (by rw [List.length_take]; omega))
        have HVA := Lib.hid (Nam.rvalid_any (strOfNums (xs.take (0))) wr HST.out)
        have HTR := Lib.hid (row_upto HR7.out (0) (by omega))
        generalize hnk : strOfNums (xs.take (0)) = nk at *
        have HNK := Lib.hid hnk
        clear hnk
        by_cases hmk : hd = markL
        · have HMK := Lib.hid hmk
          rw [hmk, mark_txt] at hch
          cases hva : Nam.validL (Nam.all nk) with
          | false =>
            have HG := Lib.hid (show ¬ Good zs from fun g => by have h5 := ((good_seen HSE.out).1 g).2.1; rw [HNK.out, hva] at h5; cases h5)
            rw [hva] at HVA
            clear hva hmk
            go_wp2_with (first
              | (go_at_call 68; (with_reducible refine HBD.out.mono ?_); rintro e w8 ⟨rfl, rfl⟩)
              | (go_at_call 69; (with_reducible refine HLF.out.mono ?_); rintro e w9 ⟨rfl, rfl⟩)
              | (go_at_call 35; (with_reducible refine HVA.out.mono ?_); rintro e wv ⟨rfl, bv⟩; have hv := Has.kept HH7.out bv)
              | (refine Sha.wpList_build_to rfl 52 _ rfl _ built27 ?_)
              | (refine wpList_store_row rfl 52 _ _ rfl w.heap.size zeroM.cells rfl rfl 52 _ hv (size27 zero_len) rfl (mn_all _) ?_))
            exact bodyPost_ret (results_row3 (p := 2) (u := 3) (v := 4) rfl _ _ w.heap.size zeroM rfl (setRow_heap _ _ _ _ _ _ hv) zero_len) rfl (reads_none HG.out (below_setRow (HC7.out.trans (bv.mono HC7.out.size)) (Nat.le_refl _) _))
          | true =>
            have HVT := Lib.hid hva
            rw [hva] at HVA
            clear hva
            by_cases v1 : ver < 1
            · have HG := Lib.hid (show ¬ Good zs from fun g => by have := ((good_seen HSE.out).1 g).2.2.1.1; omega)
              clear hmk
              go_wp2_with (first
                | (go_at_call 68; (with_reducible refine HBD.out.mono ?_); rintro e w8 ⟨rfl, rfl⟩)
                | (go_at_call 69; (with_reducible refine HLF.out.mono ?_); rintro e w9 ⟨rfl, rfl⟩)
                | (go_at_call 35; (with_reducible refine HVA.out.mono ?_); rintro e wv ⟨rfl, bv⟩; have hv := Has.kept HH7.out bv)
                | (refine Sha.wpList_build_to rfl 52 _ rfl _ built27 ?_)
                | (refine wpList_store_row rfl 52 _ _ rfl w.heap.size zeroM.cells rfl rfl 52 _ hv (size27 zero_len) rfl (mn_all _) ?_))
              exact bodyPost_ret (results_row3 (p := 2) (u := 3) (v := 4) rfl _ _ w.heap.size zeroM rfl (setRow_heap _ _ _ _ _ _ hv) zero_len) rfl (reads_none HG.out (below_setRow (HC7.out.trans (bv.mono HC7.out.size)) (Nat.le_refl _) _))
            by_cases v2 : siz < 1
            · have HG := Lib.hid (show ¬ Good zs from fun g => by have := ((good_seen HSE.out).1 g).2.2.2.1; omega)
              clear hmk
              go_wp2_with (first
                | (go_at_call 68; (with_reducible refine HBD.out.mono ?_); rintro e w8 ⟨rfl, rfl⟩)
                | (go_at_call 69; (with_reducible refine HLF.out.mono ?_); rintro e w9 ⟨rfl, rfl⟩)
                | (go_at_call 35; (with_reducible refine HVA.out.mono ?_); rintro e wv ⟨rfl, bv⟩; have hv := Has.kept HH7.out bv)
                | (refine Sha.wpList_build_to rfl 52 _ rfl _ built27 ?_)
                | (refine wpList_store_row rfl 52 _ _ rfl w.heap.size zeroM.cells rfl rfl 52 _ hv (size27 zero_len) rfl (mn_all _) ?_))
              exact bodyPost_ret (results_row3 (p := 2) (u := 3) (v := 4) rfl _ _ w.heap.size zeroM rfl (setRow_heap _ _ _ _ _ _ hv) zero_len) rfl (reads_none HG.out (below_setRow (HC7.out.trans (bv.mono HC7.out.size)) (Nat.le_refl _) _))
            by_cases v3 : 1073741824 < ver
            · have HG := Lib.hid (show ¬ Good zs from fun g => by have := ((good_seen HSE.out).1 g).2.2.1.2; omega)
              clear hmk
              go_wp2_with (first
                | (go_at_call 68; (with_reducible refine HBD.out.mono ?_); rintro e w8 ⟨rfl, rfl⟩)
                | (go_at_call 69; (with_reducible refine HLF.out.mono ?_); rintro e w9 ⟨rfl, rfl⟩)
                | (go_at_call 35; (with_reducible refine HVA.out.mono ?_); rintro e wv ⟨rfl, bv⟩; have hv := Has.kept HH7.out bv)
                | (refine Sha.wpList_build_to rfl 52 _ rfl _ built27 ?_)
                | (refine wpList_store_row rfl 52 _ _ rfl w.heap.size zeroM.cells rfl rfl 52 _ hv (size27 zero_len) rfl (mn_all _) ?_))
              exact bodyPost_ret (results_row3 (p := 2) (u := 3) (v := 4) rfl _ _ w.heap.size zeroM rfl (setRow_heap _ _ _ _ _ _ hv) zero_len) rfl (reads_none HG.out (below_setRow (HC7.out.trans (bv.mono HC7.out.size)) (Nat.le_refl _) _))
            by_cases v4 : 1073741824 < siz
            · have HG := Lib.hid (show ¬ Good zs from fun g => by have := ((good_seen HSE.out).1 g).2.2.2.2; omega)
              clear hmk
              go_wp2_with (first
                | (go_at_call 68; (with_reducible refine HBD.out.mono ?_); rintro e w8 ⟨rfl, rfl⟩)
                | (go_at_call 69; (with_reducible refine HLF.out.mono ?_); rintro e w9 ⟨rfl, rfl⟩)
                | (go_at_call 35; (with_reducible refine HVA.out.mono ?_); rintro e wv ⟨rfl, bv⟩; have hv := Has.kept HH7.out bv)
                | (refine Sha.wpList_build_to rfl 52 _ rfl _ built27 ?_)
                | (refine wpList_store_row rfl 52 _ _ rfl w.heap.size zeroM.cells rfl rfl 52 _ hv (size27 zero_len) rfl (mn_all _) ?_))
              exact bodyPost_ret (results_row3 (p := 2) (u := 3) (v := 4) rfl _ _ w.heap.size zeroM rfl (setRow_heap _ _ _ _ _ _ hv) zero_len) rfl (reads_none HG.out (below_setRow (HC7.out.trans (bv.mono HC7.out.size)) (Nat.le_refl _) _))
            have HG := Lib.hid (show Good zs from (good_seen HSE.out).2 ⟨HMK.out, by rw [HNK.out]; exact HVT.out, ⟨by omega, by omega⟩, ⟨by omega, by omega⟩⟩)
            have HTD := Lib.hid (show (⟨nk, ver, siz, dg⟩ : Mn) = readM zs by rw [readM_yes HG.out, ← HNK.out, HSE.out.name, HG4.out, HG5.out, HG6.out]; rfl)
            have HTG := Lib.hid (show tg = readT zs by rw [readT_yes HG.out, HG7.out])
            clear hmk
            go_wp2_with (first
              | (go_at_call 68; (with_reducible refine HBD.out.mono ?_); rintro e w8 ⟨rfl, rfl⟩)
              | (go_at_call 69; (with_reducible refine HLF.out.mono ?_); rintro e w9 ⟨rfl, rfl⟩)
              | (go_at_call 35; (with_reducible refine HVA.out.mono ?_); rintro e wv ⟨rfl, bv⟩; have hv := Has.kept HH7.out bv; have cv := HC7.out.trans (bv.mono HC7.out.size); have hcn2 := conv_row (c := c7) (row_below bv HTR.out); rw [HNK.out] at hcn2; have r10v := row_below bv HR10.out; have o11v := HO11.out.kept bv; have hne := has_new wv 52 zeroM.cells)
              | (refine wpList_build25 rfl (.tmp 81) (.tmp 82) rfl ver siz rfl rfl ?_)
              | (refine wpList_build27 rfl (.tmp 80) (.tmp 83) rfl nk ver siz rfl rfl ?_)
              | (refine Sha.wpList_row rfl 52 _ _ rfl wv.heap.size (Mn.cells ⟨nk, ver, siz, List.replicate 32 0⟩) rfl rfl 52 _ hne (size27 List.length_replicate) (old27 zero_len List.length_replicate) (mn_all _) ?_; intro wx hsx honx; have cx := Sha.below_only (cv.alloc cv.size (.cells zeroM.cells 52)) honx cv.size (cv.alloc cv.size (.cells zeroM.cells 52)).size; have hx : Has wx w.heap.size 52 zeroM.cells := (hv.more _).only (only_grown honx) (by have := hv.size; omega); have r10x : Row wx A10 32 dg := row_under (row_below ((Below.refl _ _).alloc (Nat.le_refl _) (.cells zeroM.cells 52)) r10v) (row_lies r10v) (only_grown honx) (fun b e => by omega); have o11x : Own wx p (.slice A11 32 c11) 32 tg := (o11v.kept ((Below.refl _ _).alloc (Nat.le_refl _) (.cells zeroM.cells 52))).stay (fun g hg => honx.block g (by have := o11v.lt g hg; simp; omega) (by have := o11v.lt g hg; intro e; injection e; omega)); have hcp := runs_cp wx 3 32 wv.heap.size 3 32 32 A10 32 c10 dg r10x rfl _ 52 (sha_has hsx) (Nat.le_of_eq (mn_size List.length_replicate).symm); rw [mn_copy _ dg List.length_replicate E10.out] at hcp; have hwv := hv.size; have hy : Has (wx.setRow wv.heap.size (Mn.cells ⟨nk, ver, siz, dg⟩)) wv.heap.size 52 (Mn.cells ⟨nk, ver, siz, dg⟩) := setRow_heap _ _ _ _ _ _ hsx; have zy : Has (wx.setRow wv.heap.size (Mn.cells ⟨nk, ver, siz, dg⟩)) w.heap.size 52 zeroM.cells := (setRow_other wx wv.heap.size w.heap.size _ (by omega)).trans hx; have cy : Below w.heap.size w (wx.setRow wv.heap.size (Mn.cells ⟨nk, ver, siz, dg⟩)) := below_setRow cx (by omega) _; have oy : Own (wx.setRow wv.heap.size (Mn.cells ⟨nk, ver, siz, dg⟩)) p (.slice A11 32 c11) 32 tg := o11x.stay (fun g hg => setRow_other wx wv.heap.size g _ (by have := o11v.lt g hg; omega)))
              | (refine wpList_load_row rfl 52 _ rfl wv.heap.size rfl 52 _ (0, 0) _ hy Tryd.underlying52 rfl (size27 (m := ⟨nk, ver, siz, dg⟩) E10.out) ?_)
              | (refine wpList_store_row rfl 52 _ _ rfl w.heap.size (Mn.cells ⟨nk, ver, siz, dg⟩) rfl rfl 52 _ zy (size27 (m := ⟨nk, ver, siz, dg⟩) E10.out) (old27 (k := ⟨nk, ver, siz, dg⟩) zero_len E10.out) (mn_all _) ?_))
            have hz : Has ((wx.setRow wv.heap.size (Mn.cells ⟨nk, ver, siz, dg⟩)).setRow w.heap.size (Mn.cells ⟨nk, ver, siz, dg⟩)) w.heap.size 52 (Mn.cells ⟨nk, ver, siz, dg⟩) := setRow_heap _ _ _ _ _ _ zy
            have oz : Own ((wx.setRow wv.heap.size (Mn.cells ⟨nk, ver, siz, dg⟩)).setRow w.heap.size (Mn.cells ⟨nk, ver, siz, dg⟩)) p (.slice A11 32 c11) 32 tg := oy.stay (fun g hg => setRow_other _ w.heap.size g _ (by have := oy.block g hg; omega))
            exact bodyPost_ret (results_row3 (p := 2) (u := 3) (v := 4) rfl _ _ w.heap.size ⟨nk, ver, siz, dg⟩ rfl hz E10.out) rfl ⟨_, by rw [readE_yes HG.out, ← HTD.out]; rfl, by rw [← HTG.out, E11.out]; exact oz.lower (by omega), below_setRow cy (Nat.le_refl _) _⟩
        · have HG := Lib.hid (show ¬ Good zs from fun g => hmk ((good_seen HSE.out).1 g).1)
          have hnm : ¬ (strOfNums hd).toList = [87, 76, 77, 49] := mark_not HR6.out.2.1 hmk
          clear hmk
          go_wp2_with (first
            | (go_at_call 68; (with_reducible refine HBD.out.mono ?_); rintro e w8 ⟨rfl, rfl⟩)
            | (go_at_call 69; (with_reducible refine HLF.out.mono ?_); rintro e w9 ⟨rfl, rfl⟩)
            | (refine Sha.wpList_build_to rfl 52 _ rfl _ built27 ?_)
            | (refine wpList_store_row rfl 52 _ _ rfl w.heap.size zeroM.cells rfl rfl 52 _ HH7.out (size27 zero_len) rfl (mn_all _) ?_))
          exact bodyPost_ret (results_row3 (p := 2) (u := 3) (v := 4) rfl _ _ w.heap.size zeroM rfl (setRow_heap _ _ _ _ _ _ HH7.out) zero_len) rfl (reads_none HG.out (below_setRow HC7.out (Nat.le_refl _) _))
      · have HG := Lib.hid (not_good h92)
        clear HSN hl
        replace h92 : n ≠ 92 := by rw [← HZL.out]; exact h92
        by_cases hs : n < 92
        · have HBD := Lib.hid (rbad_any wr HD7.out)
          rw [st_low (by rw [HZL.out]; exact hs)] at HBD
          clear h92 hs
          go_wp2_with (first
            | (go_at_call 68; (with_reducible refine HBD.out.mono ?_); rintro e w8 ⟨rfl, rfl⟩)
            | (refine Sha.wpList_build_to rfl 52 _ rfl _ built27 ?_)
            | (refine wpList_store_row rfl 52 _ _ rfl w.heap.size zeroM.cells rfl rfl 52 _ HH7.out (size27 zero_len) rfl (mn_all _) ?_))
          exact bodyPost_ret (results_row3 (p := 2) (u := 3) (v := 4) rfl _ _ w.heap.size zeroM rfl (setRow_heap _ _ _ _ _ _ HH7.out) zero_len) rfl (reads_none HG.out (below_setRow HC7.out (Nat.le_refl _) _))
        · have HBD := Lib.hid (rbad_any wr HD7.out)
          have HLF := Lib.hid (rleft_any wr HD7.out)
          rw [(st_fine (by rw [HZL.out]; omega)).1] at HBD
          rw [(st_fine (by rw [HZL.out]; omega)).2, HZL.out] at HLF
          obtain ⟨q, hq⟩ : ∃ q, n - 92 = q + 1 := ⟨n - 93, by omega⟩
          rw [hq] at HLF
          have hq0 : 0 < ((q + 1 : Nat) : Int) := by omega
          clear h92 hs hq
          go_wp2_with (first
            | (go_at_call 68; (with_reducible refine HBD.out.mono ?_); rintro e w8 ⟨rfl, rfl⟩)
            | (go_at_call 69; (with_reducible refine HLF.out.mono ?_); rintro e w9 ⟨rfl, rfl⟩)
            | (refine Sha.wpList_build_to rfl 52 _ rfl _ built27 ?_)
            | (refine wpList_store_row rfl 52 _ _ rfl w.heap.size zeroM.cells rfl rfl 52 _ HH7.out (size27 zero_len) rfl (mn_all _) ?_))
          exact bodyPost_ret (results_row3 (p := 2) (u := 3) (v := 4) rfl _ _ w.heap.size zeroM rfl (setRow_heap _ _ _ _ _ _ HH7.out) zero_len) rfl (reads_none HG.out (below_setRow HC7.out (Nat.le_refl _) _))
    | succ k =>
      obtain ⟨b7, off7, rfl, _, hcl⟩ := row_open HR7.out (by omega)
      have hcell := hcl k (by omega)
      clear hcl
      have hrun := run_upto wr (some ⟨b7, off7, none⟩) (k + 1) c7 .i64 k (by omega)
      by_cases hx0 : xs.getD k 0 = 0
      · rw [hx0] at hcell
        have HZ := Lib.hid (trimN_zero hx0)
        clear hx0
        go_wp2
        go_roundw
        case rel => exact ⟨k, rfl, by omega, Lib.hid (HZ.out.symm.trans HT.out), trivial⟩
        case measure => simp [sLen]
      · have HK := Lib.hid (show trimN xs L = k + 1 by rw [← HT.out]; exact trimN_some hx0)
        obtain ⟨x, hx⟩ : ∃ x, xs.getD k 0 = x := ⟨_, rfl⟩
        rw [hx] at hcell hx0
        have hb : (x == 0) = false := by simpa using hx0
        clear hx0 hx
        by_cases h92 : zs.length = 92
        · obtain ⟨g1, g2, g3, g4, g5, g6, g7⟩ := HSN.out h92
          have HBD := Lib.hid (rbad_any wr HD7.out)
          have HLF := Lib.hid (rleft_any wr HD7.out)
          rw [(st_fine (by omega)).1] at HBD
          rw [(st_fine (by omega)).2, h92] at HLF
          have HSE := Lib.hid (show Seen zs hd xs (k + 1) ver siz from ⟨h92, g1, by unfold nameL trimL; rw [← g3, HL2.out, HK.out], g4, g5⟩)
          have HG4 := Lib.hid g4
          have HG5 := Lib.hid g5
          have HG6 := Lib.hid g6
          have HG7 := Lib.hid g7
          have H92 := Lib.hid h92
          obtain rfl : L6 = 4 := by rw [← E6.out, g1, List.length_take]; omega
          obtain rfl : L10 = 32 := by rw [← E10.out, g6]; exact dig_len h92
          obtain rfl : L11 = 32 := by rw [← E11.out, g7, List.length_drop]; omega
          clear g1 g2 g3 g4 g5 g6 g7 h92 hl HSN
          have hch := conv_row (c := c6) HR6.out
          have hcn := conv_row (c := c7) (row_upto HR7.out (k + 1) (by omega))
          have HST := Lib.hid (str_small (zs := xs.take (k + 1)) (by rw [List.length_take]; omega))
          have HVA := Lib.hid (Nam.rvalid_any (strOfNums (xs.take (k + 1))) wr HST.out)
          have HTR := Lib.hid (row_upto HR7.out (k + 1) (by omega))
          generalize hnk : strOfNums (xs.take (k + 1)) = nk at *
          have HNK := Lib.hid hnk
          clear hnk
          by_cases hmk : hd = markL
          · have HMK := Lib.hid hmk
            rw [hmk, mark_txt] at hch
            cases hva : Nam.validL (Nam.all nk) with
            | false =>
              have HG := Lib.hid (show ¬ Good zs from fun g => by have h5 := ((good_seen HSE.out).1 g).2.1; rw [HNK.out, hva] at h5; cases h5)
              rw [hva] at HVA
              clear hva hmk
              go_wp2_with (first
                | (go_at_call 68; (with_reducible refine HBD.out.mono ?_); rintro e w8 ⟨rfl, rfl⟩)
                | (go_at_call 69; (with_reducible refine HLF.out.mono ?_); rintro e w9 ⟨rfl, rfl⟩)
                | (go_at_call 35; (with_reducible refine HVA.out.mono ?_); rintro e wv ⟨rfl, bv⟩; have hv := Has.kept HH7.out bv)
                | (refine Sha.wpList_build_to rfl 52 _ rfl _ built27 ?_)
                | (refine wpList_store_row rfl 52 _ _ rfl w.heap.size zeroM.cells rfl rfl 52 _ hv (size27 zero_len) rfl (mn_all _) ?_))
              exact bodyPost_ret (results_row3 (p := 2) (u := 3) (v := 4) rfl _ _ w.heap.size zeroM rfl (setRow_heap _ _ _ _ _ _ hv) zero_len) rfl (reads_none HG.out (below_setRow (HC7.out.trans (bv.mono HC7.out.size)) (Nat.le_refl _) _))
            | true =>
              have HVT := Lib.hid hva
              rw [hva] at HVA
              clear hva
              by_cases v1 : ver < 1
              · have HG := Lib.hid (show ¬ Good zs from fun g => by have := ((good_seen HSE.out).1 g).2.2.1.1; omega)
                clear hmk
                go_wp2_with (first
                  | (go_at_call 68; (with_reducible refine HBD.out.mono ?_); rintro e w8 ⟨rfl, rfl⟩)
                  | (go_at_call 69; (with_reducible refine HLF.out.mono ?_); rintro e w9 ⟨rfl, rfl⟩)
                  | (go_at_call 35; (with_reducible refine HVA.out.mono ?_); rintro e wv ⟨rfl, bv⟩; have hv := Has.kept HH7.out bv)
                  | (refine Sha.wpList_build_to rfl 52 _ rfl _ built27 ?_)
                  | (refine wpList_store_row rfl 52 _ _ rfl w.heap.size zeroM.cells rfl rfl 52 _ hv (size27 zero_len) rfl (mn_all _) ?_))
                exact bodyPost_ret (results_row3 (p := 2) (u := 3) (v := 4) rfl _ _ w.heap.size zeroM rfl (setRow_heap _ _ _ _ _ _ hv) zero_len) rfl (reads_none HG.out (below_setRow (HC7.out.trans (bv.mono HC7.out.size)) (Nat.le_refl _) _))
              by_cases v2 : siz < 1
              · have HG := Lib.hid (show ¬ Good zs from fun g => by have := ((good_seen HSE.out).1 g).2.2.2.1; omega)
                clear hmk
                go_wp2_with (first
                  | (go_at_call 68; (with_reducible refine HBD.out.mono ?_); rintro e w8 ⟨rfl, rfl⟩)
                  | (go_at_call 69; (with_reducible refine HLF.out.mono ?_); rintro e w9 ⟨rfl, rfl⟩)
                  | (go_at_call 35; (with_reducible refine HVA.out.mono ?_); rintro e wv ⟨rfl, bv⟩; have hv := Has.kept HH7.out bv)
                  | (refine Sha.wpList_build_to rfl 52 _ rfl _ built27 ?_)
                  | (refine wpList_store_row rfl 52 _ _ rfl w.heap.size zeroM.cells rfl rfl 52 _ hv (size27 zero_len) rfl (mn_all _) ?_))
                exact bodyPost_ret (results_row3 (p := 2) (u := 3) (v := 4) rfl _ _ w.heap.size zeroM rfl (setRow_heap _ _ _ _ _ _ hv) zero_len) rfl (reads_none HG.out (below_setRow (HC7.out.trans (bv.mono HC7.out.size)) (Nat.le_refl _) _))
              by_cases v3 : 1073741824 < ver
              · have HG := Lib.hid (show ¬ Good zs from fun g => by have := ((good_seen HSE.out).1 g).2.2.1.2; omega)
                clear hmk
                go_wp2_with (first
                  | (go_at_call 68; (with_reducible refine HBD.out.mono ?_); rintro e w8 ⟨rfl, rfl⟩)
                  | (go_at_call 69; (with_reducible refine HLF.out.mono ?_); rintro e w9 ⟨rfl, rfl⟩)
                  | (go_at_call 35; (with_reducible refine HVA.out.mono ?_); rintro e wv ⟨rfl, bv⟩; have hv := Has.kept HH7.out bv)
                  | (refine Sha.wpList_build_to rfl 52 _ rfl _ built27 ?_)
                  | (refine wpList_store_row rfl 52 _ _ rfl w.heap.size zeroM.cells rfl rfl 52 _ hv (size27 zero_len) rfl (mn_all _) ?_))
                exact bodyPost_ret (results_row3 (p := 2) (u := 3) (v := 4) rfl _ _ w.heap.size zeroM rfl (setRow_heap _ _ _ _ _ _ hv) zero_len) rfl (reads_none HG.out (below_setRow (HC7.out.trans (bv.mono HC7.out.size)) (Nat.le_refl _) _))
              by_cases v4 : 1073741824 < siz
              · have HG := Lib.hid (show ¬ Good zs from fun g => by have := ((good_seen HSE.out).1 g).2.2.2.2; omega)
                clear hmk
                go_wp2_with (first
                  | (go_at_call 68; (with_reducible refine HBD.out.mono ?_); rintro e w8 ⟨rfl, rfl⟩)
                  | (go_at_call 69; (with_reducible refine HLF.out.mono ?_); rintro e w9 ⟨rfl, rfl⟩)
                  | (go_at_call 35; (with_reducible refine HVA.out.mono ?_); rintro e wv ⟨rfl, bv⟩; have hv := Has.kept HH7.out bv)
                  | (refine Sha.wpList_build_to rfl 52 _ rfl _ built27 ?_)
                  | (refine wpList_store_row rfl 52 _ _ rfl w.heap.size zeroM.cells rfl rfl 52 _ hv (size27 zero_len) rfl (mn_all _) ?_))
                exact bodyPost_ret (results_row3 (p := 2) (u := 3) (v := 4) rfl _ _ w.heap.size zeroM rfl (setRow_heap _ _ _ _ _ _ hv) zero_len) rfl (reads_none HG.out (below_setRow (HC7.out.trans (bv.mono HC7.out.size)) (Nat.le_refl _) _))
              have HG := Lib.hid (show Good zs from (good_seen HSE.out).2 ⟨HMK.out, by rw [HNK.out]; exact HVT.out, ⟨by omega, by omega⟩, ⟨by omega, by omega⟩⟩)
              have HTD := Lib.hid (show (⟨nk, ver, siz, dg⟩ : Mn) = readM zs by rw [readM_yes HG.out, ← HNK.out, HSE.out.name, HG4.out, HG5.out, HG6.out]; rfl)
              have HTG := Lib.hid (show tg = readT zs by rw [readT_yes HG.out, HG7.out])
              clear hmk
              go_wp2_with (first
                | (go_at_call 68; (with_reducible refine HBD.out.mono ?_); rintro e w8 ⟨rfl, rfl⟩)
                | (go_at_call 69; (with_reducible refine HLF.out.mono ?_); rintro e w9 ⟨rfl, rfl⟩)
                | (go_at_call 35; (with_reducible refine HVA.out.mono ?_); rintro e wv ⟨rfl, bv⟩; have hv := Has.kept HH7.out bv; have cv := HC7.out.trans (bv.mono HC7.out.size); have hcn2 := conv_row (c := c7) (row_below bv HTR.out); rw [HNK.out] at hcn2; have r10v := row_below bv HR10.out; have o11v := HO11.out.kept bv; have hne := has_new wv 52 zeroM.cells)
                | (refine wpList_build25 rfl (.tmp 81) (.tmp 82) rfl ver siz rfl rfl ?_)
                | (refine wpList_build27 rfl (.tmp 80) (.tmp 83) rfl nk ver siz rfl rfl ?_)
                | (refine Sha.wpList_row rfl 52 _ _ rfl wv.heap.size (Mn.cells ⟨nk, ver, siz, List.replicate 32 0⟩) rfl rfl 52 _ hne (size27 List.length_replicate) (old27 zero_len List.length_replicate) (mn_all _) ?_; intro wx hsx honx; have cx := Sha.below_only (cv.alloc cv.size (.cells zeroM.cells 52)) honx cv.size (cv.alloc cv.size (.cells zeroM.cells 52)).size; have hx : Has wx w.heap.size 52 zeroM.cells := (hv.more _).only (only_grown honx) (by have := hv.size; omega); have r10x : Row wx A10 32 dg := row_under (row_below ((Below.refl _ _).alloc (Nat.le_refl _) (.cells zeroM.cells 52)) r10v) (row_lies r10v) (only_grown honx) (fun b e => by omega); have o11x : Own wx p (.slice A11 32 c11) 32 tg := (o11v.kept ((Below.refl _ _).alloc (Nat.le_refl _) (.cells zeroM.cells 52))).stay (fun g hg => honx.block g (by have := o11v.lt g hg; simp; omega) (by have := o11v.lt g hg; intro e; injection e; omega)); have hcp := runs_cp wx 3 32 wv.heap.size 3 32 32 A10 32 c10 dg r10x rfl _ 52 (sha_has hsx) (Nat.le_of_eq (mn_size List.length_replicate).symm); rw [mn_copy _ dg List.length_replicate E10.out] at hcp; have hwv := hv.size; have hy : Has (wx.setRow wv.heap.size (Mn.cells ⟨nk, ver, siz, dg⟩)) wv.heap.size 52 (Mn.cells ⟨nk, ver, siz, dg⟩) := setRow_heap _ _ _ _ _ _ hsx; have zy : Has (wx.setRow wv.heap.size (Mn.cells ⟨nk, ver, siz, dg⟩)) w.heap.size 52 zeroM.cells := (setRow_other wx wv.heap.size w.heap.size _ (by omega)).trans hx; have cy : Below w.heap.size w (wx.setRow wv.heap.size (Mn.cells ⟨nk, ver, siz, dg⟩)) := below_setRow cx (by omega) _; have oy : Own (wx.setRow wv.heap.size (Mn.cells ⟨nk, ver, siz, dg⟩)) p (.slice A11 32 c11) 32 tg := o11x.stay (fun g hg => setRow_other wx wv.heap.size g _ (by have := o11v.lt g hg; omega)))
                | (refine wpList_load_row rfl 52 _ rfl wv.heap.size rfl 52 _ (0, 0) _ hy Tryd.underlying52 rfl (size27 (m := ⟨nk, ver, siz, dg⟩) E10.out) ?_)
                | (refine wpList_store_row rfl 52 _ _ rfl w.heap.size (Mn.cells ⟨nk, ver, siz, dg⟩) rfl rfl 52 _ zy (size27 (m := ⟨nk, ver, siz, dg⟩) E10.out) (old27 (k := ⟨nk, ver, siz, dg⟩) zero_len E10.out) (mn_all _) ?_))
              have hz : Has ((wx.setRow wv.heap.size (Mn.cells ⟨nk, ver, siz, dg⟩)).setRow w.heap.size (Mn.cells ⟨nk, ver, siz, dg⟩)) w.heap.size 52 (Mn.cells ⟨nk, ver, siz, dg⟩) := setRow_heap _ _ _ _ _ _ zy
              have oz : Own ((wx.setRow wv.heap.size (Mn.cells ⟨nk, ver, siz, dg⟩)).setRow w.heap.size (Mn.cells ⟨nk, ver, siz, dg⟩)) p (.slice A11 32 c11) 32 tg := oy.stay (fun g hg => setRow_other _ w.heap.size g _ (by have := oy.block g hg; omega))
              exact bodyPost_ret (results_row3 (p := 2) (u := 3) (v := 4) rfl _ _ w.heap.size ⟨nk, ver, siz, dg⟩ rfl hz E10.out) rfl ⟨_, by rw [readE_yes HG.out, ← HTD.out]; rfl, by rw [← HTG.out, E11.out]; exact oz.lower (by omega), below_setRow cy (Nat.le_refl _) _⟩
          · have HG := Lib.hid (show ¬ Good zs from fun g => hmk ((good_seen HSE.out).1 g).1)
            have hnm : ¬ (strOfNums hd).toList = [87, 76, 77, 49] := mark_not HR6.out.2.1 hmk
            clear hmk
            go_wp2_with (first
              | (go_at_call 68; (with_reducible refine HBD.out.mono ?_); rintro e w8 ⟨rfl, rfl⟩)
              | (go_at_call 69; (with_reducible refine HLF.out.mono ?_); rintro e w9 ⟨rfl, rfl⟩)
              | (refine Sha.wpList_build_to rfl 52 _ rfl _ built27 ?_)
              | (refine wpList_store_row rfl 52 _ _ rfl w.heap.size zeroM.cells rfl rfl 52 _ HH7.out (size27 zero_len) rfl (mn_all _) ?_))
            exact bodyPost_ret (results_row3 (p := 2) (u := 3) (v := 4) rfl _ _ w.heap.size zeroM rfl (setRow_heap _ _ _ _ _ _ HH7.out) zero_len) rfl (reads_none HG.out (below_setRow HC7.out (Nat.le_refl _) _))
        · have HG := Lib.hid (not_good h92)
          clear HSN hl
          replace h92 : n ≠ 92 := by rw [← HZL.out]; exact h92
          by_cases hs : n < 92
          · have HBD := Lib.hid (rbad_any wr HD7.out)
            rw [st_low (by rw [HZL.out]; exact hs)] at HBD
            clear h92 hs
            go_wp2_with (first
              | (go_at_call 68; (with_reducible refine HBD.out.mono ?_); rintro e w8 ⟨rfl, rfl⟩)
              | (refine Sha.wpList_build_to rfl 52 _ rfl _ built27 ?_)
              | (refine wpList_store_row rfl 52 _ _ rfl w.heap.size zeroM.cells rfl rfl 52 _ HH7.out (size27 zero_len) rfl (mn_all _) ?_))
            exact bodyPost_ret (results_row3 (p := 2) (u := 3) (v := 4) rfl _ _ w.heap.size zeroM rfl (setRow_heap _ _ _ _ _ _ HH7.out) zero_len) rfl (reads_none HG.out (below_setRow HC7.out (Nat.le_refl _) _))
          · have HBD := Lib.hid (rbad_any wr HD7.out)
            have HLF := Lib.hid (rleft_any wr HD7.out)
            rw [(st_fine (by rw [HZL.out]; omega)).1] at HBD
            rw [(st_fine (by rw [HZL.out]; omega)).2, HZL.out] at HLF
            obtain ⟨q, hq⟩ : ∃ q, n - 92 = q + 1 := ⟨n - 93, by omega⟩
            rw [hq] at HLF
            have hq0 : 0 < ((q + 1 : Nat) : Int) := by omega
            clear h92 hs hq
            go_wp2_with (first
              | (go_at_call 68; (with_reducible refine HBD.out.mono ?_); rintro e w8 ⟨rfl, rfl⟩)
              | (go_at_call 69; (with_reducible refine HLF.out.mono ?_); rintro e w9 ⟨rfl, rfl⟩)
              | (refine Sha.wpList_build_to rfl 52 _ rfl _ built27 ?_)
              | (refine wpList_store_row rfl 52 _ _ rfl w.heap.size zeroM.cells rfl rfl 52 _ HH7.out (size27 zero_len) rfl (mn_all _) ?_))
            exact bodyPost_ret (results_row3 (p := 2) (u := 3) (v := 4) rfl _ _ w.heap.size zeroM rfl (setRow_heap _ _ _ _ _ _ HH7.out) zero_len) rfl (reads_none HG.out (below_setRow HC7.out (Nat.le_refl _) _))
end Go.Proofs.YtcokpdhhpaahgaaDoor.Man

namespace Go.Proofs.YtcokpdhhpaahgaaDoor.Man
open Go.RowKit
set_option linter.unusedVariables false
set_option linter.unusedSimpArgs false

end Go.Proofs.YtcokpdhhpaahgaaDoor.Man

namespace Go.Proofs.YtcokpdhhpaahgaaDoor.Man
open Go.RowKit
set_option linter.unusedVariables false
set_option linter.unusedSimpArgs false

def mA : Mn := ⟨⟨#[107]⟩, 1, 1, List.replicate 32 0⟩
theorem mA_ok : mA.Ok := ⟨List.length_replicate, byt_rep _, by unfold I64 mA; simp, by unfold I64 mA; simp⟩
theorem mA_name : Nam.validL (Nam.all mA.name) = true := by kernel_rfl
theorem mA_back (ks : List Int) : Good (byteL ks mA) ∧ readM (byteL ks mA) = mA ∧ readT (byteL ks mA) = Sha.tagI ks (bodyL mA) ∧ signB ks (byteL ks mA) = true :=
  byte_back ks List.length_replicate mA_name ⟨by unfold mA; simp, by unfold mA; simp⟩ ⟨by unfold mA; simp, by unfold mA; simp⟩
set_option maxRecDepth 100000 in
theorem other_tag : (decide (Sha.tagI [107] (bodyL mA) = Sha.tagI [108] (bodyL mA))) = false := by decide +kernel
theorem mA_other : signB [108] (byteL [107] mA) = false := by
  obtain ⟨p1, p2, p3, p4, p5, p6, p7⟩ := parts_of mA (Sha.tagI [107] (bodyL mA)) List.length_replicate
  unfold signB byteL
  rw [p6, p7, other_tag, Bool.and_false]
theorem nil_not : ¬ Good [] := fun g => by have := g.1; simp at this
theorem byt_k (x : Int) (h : 0 ≤ x ∧ x ≤ 255) : Byt [x] := byt_one h
theorem key_row (w : World) (x : Int) (h : 0 ≤ x ∧ x ≤ 255) : Row (w.alloc (.cells #[.int .u8 x] 5 (1, 2))) (some ⟨w.heap.size, 0, none⟩) 1 [x] := row_text w [x] (byt_one h) 1 rfl (1, 2)
end Go.Proofs.YtcokpdhhpaahgaaDoor.Man

namespace Go.Proofs.YtcokpdhhpaahgaaDoor.Man
open Go.RowKit
set_option linter.unusedVariables false
set_option linter.unusedSimpArgs false

theorem yields_eq27 {ops : Array Oper} {S : World → Prop} {o : Oper} {a : Act} (hw : Region.wanted o (yielded ops a.tmps) = true) (x y : Operand) (ho : o.op = .binOp .eql 52 x y 52) (m : Mn) (hx : a.eval x = .agg m.cells) (hy : a.eval y = .agg m.cells) (hl : m.dig.length = 32) :
    YieldsIf Tryd.prog ops S o (.bool true) a :=
  Or.inl ⟨hw, fun W hW => by
    have h1 := run_eqGuard_agg (P := Tryd.prog) W .eql 52 x y m.cells m.cells (by kernel_rfl)
    have h2 := run_eql_struct (P := Tryd.prog) W 52 m.cells m.cells
    rw [eq27 m hl W] at h2
    unfold execOp
    simp only [ho, hx, hy, Sem.run_bind, h1, Result.andThen_ok]
    simp [h1, h2]⟩
/-- The rest of a region, under a condition that says more. -/
theorem wpAnyH_strong {P : Program} {md : Region.Mode} {ops : Array Oper} {Q : Exit → Act → World → Prop} {S S' : World → Prop} (hs : ∀ w, S' w → S w) :
    ∀ (fuel : Nat) (listed : Array Bool) (a : Act) (w : World), wpAnyH P md ops Q S' fuel listed a w → wpAnyH P md ops Q S fuel listed a w
  | 0, _, _, _, h => h
  | fuel + 1, _, _, _, h => ⟨h.1, fun i hi => wpOp_mono (fun a' w' h' => ⟨hs w' h'.1, wpAnyH_strong hs fuel _ a' w' h'.2⟩) (h.2 i hi)⟩
end Go.Proofs.YtcokpdhhpaahgaaDoor.Man

namespace Go.Proofs.YtcokpdhhpaahgaaDoor.Man
open Go.ChangeShapes Go.WideShapes Go.ChangeAt Go.RowKit
set_option linter.unusedVariables false
set_option linter.unusedSimpArgs false

set_option maxRecDepth 100000 in
theorem dig_of {H : Type} {enc : TypeId × Value → H} {w : World} {fuel : Nat} {l : List Value} {x : DataW H × List MemPlace} (h : DataW.trod enc Tryd.prog w 0 (fun _ => true) true fuel 22 l = some x) : ∃ ds : List Int, l = nums ds ∧ ds.length = 32 ∧ Byt ds := by
  have e23 : Tryd.prog.cellsOf 22 = 32 := by kernel_rfl
  have e5 : Tryd.prog.cellsOf 5 = 1 := by kernel_rfl
  obtain ⟨xs, m, _, _, hl, hxl, hel⟩ := DataW.trod_array Tryd.underlying22 h
  rw [e23] at hl
  have key : ∀ i, i < 32 → ∃ z : Int, l[i]? = some (.int .u8 z) ∧ 0 ≤ z ∧ z ≤ 255 := by
    intro i hi
    have hE := hel i hi
    rw [e5, Nat.mul_one, List.getElem?_eq_getElem (by omega)] at hE
    obtain ⟨z, e1, _, hw⟩ := DataW.trod_int Tryd.underlying5 hE
    have h0 : ((l.drop i).take 1)[0]? = some (.int .u8 z) := by rw [e1]; rfl
    exact ⟨z, by simpa using h0, bounds_u8 hw⟩
  refine ⟨l.map (fun v => match v with | .int _ z => z | _ => 0), ?_, by rw [List.length_map, hl], ?_⟩
  · refine List.ext_getElem? fun i => ?_
    by_cases hi : i < 32
    · obtain ⟨z, e, _⟩ := key i hi
      simp [nums, e]
    · rw [List.getElem?_eq_none (by omega), List.getElem?_eq_none (by simp [nums]; omega)]
  · intro n hn
    obtain ⟨v, hv, rfl⟩ := List.mem_map.1 hn
    obtain ⟨i, hi, rfl⟩ := List.mem_iff_getElem.1 hv
    obtain ⟨z, e, hz⟩ := key i (by omega)
    rw [List.getElem?_eq_getElem hi] at e
    rw [Option.some.inj e]
    exact hz
set_option maxRecDepth 100000 in
theorem man_of {H : Type} {enc : TypeId × Value → H} {w : World} {fuel : Nat} {cs : Array Value} {x : DataW H × List MemPlace} (h : DataW.trod enc Tryd.prog w 0 (fun _ => true) true fuel 52 (Value.agg cs).cells.toList = some x) : ∃ m : Mn, cs = m.cells ∧ m.Ok ∧ m.name.size ≤ maxLen := by
  have e27 : Tryd.prog.cellsOf 52 = 35 := by kernel_rfl
  have e25 : Tryd.prog.cellsOf 24 = 34 := by kernel_rfl
  have e23 : Tryd.prog.cellsOf 22 = 32 := by kernel_rfl
  have e9 : Tryd.prog.cellsOf 9 = 1 := by kernel_rfl
  have e3 : Tryd.prog.cellsOf 3 = 1 := by kernel_rfl
  obtain ⟨y0, y1, n, _, hl, f0, f1⟩ := trod_struct2 Tryd.underlying52 h
  obtain ⟨z0, z1, z2, k, _, hl1, g0, g1, g2⟩ := Deep.trod_struct3 Tryd.underlying24 f1
  rw [e27] at hl
  simp only [e9, e25, e3, e23] at f0 g0 g1 g2
  obtain ⟨s, c0, _, hs⟩ := DataW.trod_string Tryd.underlying9 f0
  obtain ⟨v, c1, _, hv⟩ := DataW.trod_int Tryd.underlying3 g0
  obtain ⟨q, c2, _, hq⟩ := DataW.trod_int Tryd.underlying3 g1
  obtain ⟨ds, c3, hd, hb⟩ := dig_of g2
  have hbv := bounds_i64 hv
  have hbq := bounds_i64 hq
  refine ⟨⟨s, v, q, ds⟩, ?_, ⟨hd, hb, ⟨hbv.1, hbv.2⟩, ⟨hbq.1, hbq.2⟩⟩, hs⟩
  obtain ⟨l⟩ := cs
  have hl' : l.length = 35 := hl
  simp only [Value.cells] at c0 c1 c2 c3
  match l, hl' with
  | a0 :: a1 :: a2 :: t, ht =>
    have ht3 : t.length = 32 := by simpa using ht
    simp at c0
    simp [List.take_of_length_le, ht3] at c1 c2 c3
    unfold Mn.cells
    simp [c0, c1, c2, c3]
end Go.Proofs.YtcokpdhhpaahgaaDoor.Man
