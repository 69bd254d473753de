/-
  The walk of the law ShaParts: bytes that come part by part, a stream saved and restored between; conditions: the tables lie as they were laid, the parts read as bytes.
-/
import Derived.Test.YtllpcpjnajdfkaaDoorLaid
import Derived.Test.YtllpcpjnajdfkaaDoorCards
import Derived.Test.YtllpcpjnajdfkaaDoorRestore
import Derived.Deep.RegionHeld3
import Derived.Laws.BytesArg
namespace Go.Proofs.YtllpcpjnajdfkaaDoor.shaParts
open Go.ChangeShapes Go.WideShapes Go.ChangeAt Go.RowKit
set_option linter.unusedVariables false
set_option linter.unusedSimpArgs false

/-- The parts that came in: row by row. -/
def Parts (w : World) (a : Option Addr) (len : Nat) (A : Nat → Option Addr) (L C : Nat → Nat) (Z : Nat → List Int) : Prop :=
  len = 0 ∨ ∃ b off, a = some ⟨b, off, none⟩ ∧ b < w.heap.size ∧ ∀ r, r < len → w.cell? ⟨b, off + r, none⟩ = some (.slice (A r) (L r) (C r)) ∧ L r ≤ C r ∧ Row w (A r) (L r) (Z r)
def Bools (w : World) (a : Option Addr) (len : Nat) (B : Nat → Bool) : Prop :=
  len = 0 ∨ ∃ b off, a = some ⟨b, off, none⟩ ∧ b < w.heap.size ∧ ∀ r, r < len → w.cell? ⟨b, off + r, none⟩ = some (.bool (B r))
def cat (Z : Nat → List Int) : Nat → List Int
  | 0 => []
  | k + 1 => cat Z k ++ Z k
theorem own_ne {w : World} {base b : Nat} {v : Value} {n : Nat} {zs : List Int} {t : TypeId} {cs : Array Value} (ho : Own w base v n zs) (hb : Has w b t cs) (ht : t ≠ 5) : some b ≠ v.ownBlock := by
  intro e
  rcases ho.1.2 with ⟨rfl, _⟩ | ⟨g, cap, cur, rfl, _, hg, _⟩
  · simp [Value.ownBlock] at e
  · have e' : some b = some g := e
    cases e'
    unfold Has at hb
    rw [hg] at hb
    injection hb with hb
    injection hb with _ hb
    exact ht hb.symm
theorem Has_own {w w' : World} {base b : Nat} {v : Value} {n : Nat} {zs : List Int} {t : TypeId} {cs : Array Value} (hb : Has w b t cs) (ho : Own w base v n zs) (hg : w.grownBy w' v.ownBlock) (ht : t ≠ 5) : Has w' b t cs :=
  (hg.block b hb.size (own_ne ho hb ht)).trans hb
theorem has_ne {w : World} {b b' : Nat} {t t' : TypeId} {cs cs' : Array Value} (h : Has w b t cs) (h' : Has w b' t' cs') (ht : t ≠ t') : b ≠ b' := by
  intro e
  subst e
  unfold Has at h h'
  rw [h] at h'
  injection h' with h'
  injection h' with _ h'
  exact ht h'
theorem Has_only {w w' : World} {b e : Nat} {t t' : TypeId} {cs cs' : Array Value} (hb : Has w b t cs) (he : Has w e t' cs') (ho : w.grownBy w' (some e)) (ht : t ≠ t') : Has w' b t cs :=
  (ho.block b hb.size (fun h => has_ne hb he ht (by injection h))).trans hb
/-- A row from block N on stays while a block below N is written. -/
theorem own_far {w w' : World} {N : Nat} {v : Value} {n : Nat} {zs : List Int} {r : Option Nat} (h : Own w N v n zs) (hg : w.grownBy w' r) (hr : ∀ k, r = some k → k < N) : Own w' N v n zs := by
  obtain ⟨⟨h1, h2⟩, h3⟩ := h
  refine ⟨⟨h1, ?_⟩, h3⟩
  rcases h2 with h2 | ⟨g, cap, cur, e1, e2, e3, e4⟩
  · exact .inl h2
  · exact .inr ⟨g, cap, cur, e1, e2, (hg.block g (Array.getElem?_eq_some_iff.1 e3).1 (fun e => by have := hr g e.symm; omega)).trans e3, e4⟩
theorem own_has {w w' : World} {base b : Nat} {v : Value} {n : Nat} {zs : List Int} {t : TypeId} {cs : Array Value} (ho : Own w base v n zs) (hb : Has w b t cs) (ht : t ≠ 5) (hg : w.grownBy w' (some b)) : Own w' base v n zs := by
  have hne := own_ne ho hb ht
  obtain ⟨⟨h1, h2⟩, h3⟩ := ho
  refine ⟨⟨h1, ?_⟩, h3⟩
  rcases h2 with h2 | ⟨g, cap, cur, e1, e2, e3, e4⟩
  · exact .inl h2
  · refine .inr ⟨g, cap, cur, e1, e2, (hg.block g (Array.getElem?_eq_some_iff.1 e3).1 (fun e => hne ?_)).trans e3, e4⟩
    rw [e1]; exact e.symm
theorem row_nil {w : World} {a : Option Addr} {n : Nat} {zs : List Int} (h : Row w a n zs) : a = none → n = 0 := by
  intro e
  rcases h.2.2 with h0 | ⟨b, off, h1, _⟩
  · exact h0
  · rw [e] at h1; cases h1
theorem conv22 {w : World} {b off n c : Nat} {zs : List Int} (hn : 0 < n) (h : Row w (some ⟨b, off, none⟩) n zs) : (convert 22 9 (.slice (some ⟨b, off, none⟩) n c)).run Tryd.prog w = .ok (.string (strOfNums zs)) w := by
  obtain ⟨b', off', e, _, hc⟩ := row_open h hn
  cases e
  exact run_convert_bytes_arg w 22 5 Tryd.underlying22 Tryd.underlying5 b off n c zs h.1 hc 9 Tryd.underlying9
set_option maxRecDepth 100000 in
theorem num_any (w : World) : Calls Tryd.prog 18 #[.int .i64 0] w fun e w' => e = .returned (.int .i64 0) ∧ w = w' := by
  go_enter Tryd.func18, Tryd.ntmps18
  go_wp2
  go_ret
  exact ⟨rfl, rfl⟩
def At (w : World) (all : List Int) (sb rb : Nat) (v8 : Value) (wr : World) : Prop :=
  ∃ (bf : List Int) (v : Value), bf.length = 64 ∧ Byt bf ∧ bf.take (all.length % 64) = (run st0 all).2 ∧ Has wr sb 49 (smCells (run st0 all).1 all.length bf) ∧ Has wr rb 53 (rsCells (run st0 all).1 all.length v) ∧
    Own wr 0 v (run st0 all).2.length (run st0 all).2 ∧ Own wr w.heap.size v8 all.length all ∧ Below w.heap.size w wr ∧ w.heap.size ≤ sb ∧ w.heap.size ≤ rb
def Loop (w : World) (Z : Nat → List Int) (len rb : Nat) (v6 v8 v9 : Value) (wr : World) : Prop :=
  ∃ k sb : Nat, k ≤ len ∧ v6 = .pointer (some ⟨sb, 0, none⟩) ∧ v9 = .int .i64 k ∧ (cat Z k).length ≤ 300 * k ∧ At w (cat Z k) sb rb v8 wr
def kOf (v : Value) : Nat := (intOf v).toNat

set_option maxRecDepth 100000 in
set_option maxHeartbeats 2000000 in
theorem walk_out (a0 a1 : Option Addr) (len0 cap0 len1 cap1 : Nat) (w : World) (ht : Tabs w) (h : 20 < len0 ∨ len1 < len0) :
    Calls Tryd.prog 4 #[.slice a0 len0 cap0, .slice a1 len1 cap1] w fun e w' => e = .returned (.bool true) ∧ Below w.heap.size w w' := by
  by_cases h1 : 20 < len0
  · have i1 : (20 : Int) < (len0 : Int) := by omega
    go_enter Tryd.func4, Tryd.ntmps4
    go_wp2_with (go_at_call 7; refine (alive_any _ ht).mono ?_; rintro e w1 ⟨rfl, H1⟩)
    go_ret
    exact ⟨rfl, H1⟩
  · have i1 : ¬ (20 : Int) < (len0 : Int) := by omega
    have i2 : len1 < len0 := by omega
    go_enter Tryd.func4, Tryd.ntmps4
    go_wp2_with (go_at_call 7; refine (alive_any _ ht).mono ?_; rintro e w1 ⟨rfl, H1⟩)
    go_ret
    exact ⟨rfl, H1⟩
set_option maxRecDepth 100000 in
set_option maxHeartbeats 4000000 in
theorem walk_within (a0 a1 : Option Addr) (len0 cap0 len1 cap1 : Nat) (A : Nat → Option Addr) (L C : Nat → Nat) (Z : Nat → List Int) (B : Nat → Bool) (w : World) (ht : Tabs w) (hp : Parts w a0 len0 A L C Z) (hq : Bools w a1 len1 B) (h20 : len0 ≤ 20) (h01 : len0 ≤ len1) :
    Calls Tryd.prog 4 #[.slice a0 len0 cap0, .slice a1 len1 cap1] w fun e w' => e = .returned (.bool true) ∧ Below w.heap.size w w' := by
  have i20 : (len0 : Int) ≤ 20 := by omega
  have d20 : decide ((20 : Int) < (len0 : Int)) = false := by simp; omega
  have d01 : decide (len1 < len0) = false := by simp; omega
  go_enter Tryd.func4, Tryd.ntmps4
  go_wp2_with (go_at_call 7; refine (alive_any _ ht).mono ?_; rintro e w1 ⟨rfl, H1⟩)
  refine (new_any _ (ht.kept H1)).mono ?_
  rintro e w2 ⟨sb, rfl, hsb, hs2, H2⟩
  have hb2 := H1.trans (H2.mono H1.size)
  go_wp2_with fail
  refine (rnew_any _).mono ?_
  rintro e w3 ⟨rb, rfl, hrb, hr3, H3⟩
  have hb3 := hb2.trans (H3.mono hb2.size)
  have hat : At w [] sb rb (.slice none 0 0) w3 :=
    ⟨noBytes, .slice none 0 0, no_len, no_byt, by rw [run_small st0 [] (by simp)]; rfl, by rw [run_small st0 [] (by simp)]; exact hs2.kept H3, by rw [run_small st0 [] (by simp)]; exact hr3, by rw [run_small st0 [] (by simp)]; exact own_nil _ _, own_nil _ _, hb3, by have := H1.size; omega, by have := hb2.size; omega⟩
  clear hs2 hr3 H2 H3
  go_wp2_with fail
  go_loopw [6, 8, 9] (fun v6 v8 v9 wr => Loop w Z len0 rb v6 v8 v9 wr) (fun _ _ v9 _ => len0 - kOf v9)
  case atStart => exact ⟨0, sb, by omega, rfl, rfl, by simp [cat], hat⟩
  case round =>
    clear hat
    obtain ⟨k, sb, hk, rfl, rfl, hkl, bf, v, hbl, hbb, hbt, hs, hr, hv, h8, hbel, hsb, hrb⟩ := hrel
    by_cases hlt : k < len0
    · obtain ⟨b0, off0, rfl, hb0, hrows⟩ := hp.resolve_left (by omega)
      obtain ⟨b1, off1, rfl, hb1, hbs⟩ := hq.resolve_left (by omega)
      obtain ⟨hc0, hLC, hrow0⟩ := hrows k hlt
      have hc1 := hbs k (by omega)
      have hck : ∀ W, Below w.heap.size w W → W.cell? ⟨b0, off0 + k, none⟩ = some (.slice (A k) (L k) (C k)) := fun W h => (h.cell (p := ⟨b0, off0 + k, none⟩) hb0).trans hc0
      have hcb : ∀ W, Below w.heap.size w W → W.cell? ⟨b1, off1 + k, none⟩ = some (.bool (B k)) := fun W h => (h.cell (p := ⟨b1, off1 + k, none⟩) hb1).trans hc1
      have ck := hck wr hbel
      have ik : (k : Int) < (len0 : Int) := by omega
      have ik1 : k < len1 := by omega
      by_cases hL : L k ≤ 300
      · have iL : (L k : Int) ≤ 300 := by omega
        have dL : decide ((300 : Int) < (L k : Int)) = false := by simp; omega
        have hnx : cat Z (k + 1) = cat Z k ++ Z k := rfl
        have hcl := hkl
        generalize cat Z k = T at *
        have hro := row_below hbel hrow0
        have hm := Lib.hid hro.1
        have hnl := row_nil hrow0
        have hX := run_ok st0_ok h8.2
        have hRl := Lib.hid (run_len st0_ok h8.2)
        have hTn : T.length ≤ 6000 := by omega
        have HBL := Lib.hid hbl
        have HBT := Lib.hid hbt
        have hsn : 1 < sb := by have := ht.1; omega
        clear hbl hbt hkl hrows hbs hp hq
        go_wp2_with (refine wpList_app rfl _ _ rfl 0 _ 0 [] rfl (own_nil _ _) (A k) (L k) (C k) (Z k) rfl hro hnl (by omega) (Nat.zero_le _) ?_; intro v1 wa ho1 hg1; rw [Nat.zero_add, List.nil_append] at ho1; obtain ⟨A1, c1, rfl, hcc1, hr1, _⟩ := ho1.form)
        have hba : Below wr.heap.size wr wa := (Below.refl _ _).grown hg1 (Nat.le_refl _) (fun k hk => by cases hk)
        have hsa := hs.kept hba
        have hra := hr.kept hba
        have hva := hv.kept hba
        have h8a := h8.kept hba
        have hroa := row_below hba hro
        have hbela := hbel.trans (hba.mono hbel.size)
        refine (write_any sb T.length _ bf A1 (L k) c1 (Z k) wa hX HBL.out hbb hsa hr1 hcc1 (ho1.off hsa (by decide)) (ht.kept hbela) hsn (by omega)).mono ?_
        rintro e wb ⟨rfl, bf2, hl2, hbb2, htk2, hs2, hon2⟩
        rw [HBT.out, ← run_app, hm.out] at hs2 htk2
        have hrB := Has_only hra hsa hon2 (by decide)
        have hvB := own_has hva hsa (by decide) hon2
        have h8B := own_has h8a hsa (by decide) hon2
        have hroB := row_only hroa hon2 (row_off hrow0 hsb)
        have hbelB := below_only hbela hon2 hsb hbela.size
        have HL2 := Lib.hid hl2
        have HT2 := Lib.hid htk2
        have ckB := hck wb hbelB
        clear hl2 htk2 hs hr hv h8 hsa hra hva h8a hro hroa ho1 hr1 hg1 hba hbel hbela ck hon2
        go_wp2_with fail
        refine (rwrite_any rb T.length _ v _ (A k) (L k) (C k) (Z k) wb hX hrB hvB hroB hLC (row_off hrow0 hrb) (by omega) (by rw [hRl.out]; omega)).mono ?_
        rintro e wc ⟨rfl, v3, hr3, hv3, hon3⟩
        rw [← run_app] at hr3 hv3
        rw [hm.out] at hr3
        have hs3 := Has_only hs2 hrB hon3 (by decide)
        have h8C := own_has h8B hrB (by decide) hon3
        have hroC := row_only hroB hon3 (row_off hrow0 hrb)
        have hbelC := below_only hbelB hon3 hrb hbelB.size
        have ckC := hck wc hbelC
        have hlB : ∀ k, u8.ownBlock = some k → k < wb.heap.size := fun k hk => (h8B.1.lt k hk).2
        clear hs2 hrB hvB hroB hbelB ckB hon3 h8B
        go_wp2_with (refine wpList_app rfl _ _ rfl w.heap.size u8 T.length T rfl h8C (A k) (L k) (C k) (Z k) rfl hroC hnl (by omega) hbelC.size ?_; intro v4 wd ho4 hg4)
        have hs4 := Has_own hs3 h8C hg4 (by decide)
        have hr4 := Has_own hr3 h8C hg4 (by decide)
        have hv4 := own_far hv3 hg4 hlB
        have hbelD := hbelC.grown hg4 hbelC.size (fun k hk => h8C.block k hk)
        have hT2l : (T ++ Z k).length = T.length + L k := by rw [List.length_append, hm.out]
        obtain ⟨n2, hn2⟩ : ∃ n2, T.length + L k = n2 := ⟨_, rfl⟩
        rw [hn2] at hs4 hr4 hT2l ho4 HT2
        have hn2b : n2 ≤ 300 * (k + 1) := by omega
        have hn2c : n2 ≤ 6000 := by omega
        generalize T ++ Z k = T2 at *
        have hX2 := run_ok st0_ok ho4.2
        have hRl2 := Lib.hid (run_len st0_ok ho4.2)
        rw [hT2l] at hRl2
        clear hs3 hr3 hv3 h8C hroC hbelC ckC hg4 hlB
        obtain ⟨A4, c4, rfl, hcc4, _, _⟩ := ho4.form
        refine (save_any sb n2 _ bf2 wd hX2 HL2.out hbb2 hs4 (by omega)).mono ?_
        rintro e we ⟨v5, rfl, ho5, H5⟩
        rw [HT2.out] at ho5
        have hs5 := hs4.kept H5
        have hr5 := hr4.kept H5
        have hv5 := hv4.kept H5
        have ho6 := ho4.kept H5
        have hbelE := hbelD.trans (H5.mono hbelD.size)
        clear hs4 hr4 hv4 ho4 hbelD H5
        obtain ⟨A5, c5, rfl, hcc5, hr5w, _⟩ := ho5.form
        obtain ⟨g, off, rfl, hglt, _⟩ := row_open hr5w (by omega)
        obtain ⟨A4', c4', e4, _, hr6w, _⟩ := ho6.form
        cases e4
        have hbd : Below we.heap.size we we.drew := (Below.refl _ we).drew
        have htE := ht.kept hbelE
        have HA := Lib.hid (fun W (hW : Below we.heap.size we.drew W) => (sum_any sb n2 _ bf2 W hX2 HL2.out hbb2 ((hs5.kept hbd).kept hW) ((htE.kept hbd).kept hW) (by omega)))
        have HB := Lib.hid (fun W (hW : Below we.heap.size we.drew W) => (shaSum_any A4 n2 c4 T2 W (row_below hW (row_below hbd hr6w)) hcc4 ((htE.kept hbd).kept hW) (by omega)))
        have HC := Lib.hid (fun W (hW : Below we.heap.size we.drew W) => (rsave_any rb n2 _ v3 _ W hX2 ((hr5.kept hbd).kept hW) (((hv5.kept hbd).kept hW).lower (Nat.zero_le _)) (by rw [hRl2.out]; omega) (by omega)))
        have HD := Lib.hid (fun W (hW : Below we.heap.size we.drew W) => (conv22 (c := c5) (by omega) (row_below hW (row_below hbd hr5w))))
        rw [HT2.out, show sumI (run st0 T2).1 n2 (run st0 T2).2 = shaI T2 by unfold shaI; rw [hT2l]] at HA
        rw [hRl2.out] at HC
        have hsl := Lib.hid (show (shaI T2).length = 32 from rfl)
        have heq := eq24 (shaI T2) hsl.out
        have bE : Below we.heap.size we.drew we.drew := Below.refl _ _
        have hXS : ∃ SV, saveI (run st0 T2).1 n2 (run st0 T2).2 = SV := ⟨_, rfl⟩
        obtain ⟨SV, hSV⟩ := hXS
        rw [hSV] at HC HD ho5 hr5w
        obtain ⟨dig, hdig⟩ : ∃ dig, shaI T2 = dig := ⟨_, rfl⟩
        rw [hdig] at HA HB heq
        go_wp2_with fail
        refine wp_region_held_drew (S := fun w' => Below we.heap.size we.drew w') (by kernel_rfl) bE ?_
        intro _
        refine wpAnyH_take (i := 0) (v := .pointer (some ⟨sb, 0, none⟩)) rfl (by kernel_rfl) (by kernel_rfl) (by kernel_rfl) (fun _ _ _ h => h) (Or.inl ⟨by rfl, (fun W _ => by go_simp)⟩) bE ?_
        simp only [List.getElem_toArray, List.getElem_cons_succ, List.getElem_cons_zero, Act.put, List.setIfInBounds_toArray, List.set_cons_zero, List.set_cons_succ]
        refine wpAnyH_take (i := 2) (v := .slice A4 n2 c4) rfl (by kernel_rfl) (by kernel_rfl) (by kernel_rfl) (fun _ _ _ h => h) (Or.inl ⟨by rfl, (fun W _ => by go_simp)⟩) bE ?_
        simp only [List.getElem_toArray, List.getElem_cons_succ, List.getElem_cons_zero, Act.put, List.setIfInBounds_toArray, List.set_cons_zero, List.set_cons_succ]
        refine wpAnyH_ready (rs := [1]) (by kernel_rfl) (by simp) ?_
        refine AllReadyH.cons rfl (fun K hK => ?_) AllReadyH.nil
        go_simp
        refine (HA.out _ bE).mono ?_
        rintro e w8 ⟨rfl, H8⟩; have b8 := bE.trans (H8.mono bE.size)
        refine hK.out _ _ b8 (fun _ => ?_)
        clear hK K
        refine wpAnyH_ready (rs := [3]) (by kernel_rfl) (by simp) ?_
        refine AllReadyH.cons rfl (fun K hK => ?_) AllReadyH.nil
        go_simp
        refine (HB.out _ b8).mono ?_
        rintro e w9 ⟨rfl, H9⟩; have b9 := b8.trans (H9.mono b8.size)
        refine hK.out _ _ b9 (fun _ => ?_)
        clear hK K
        refine wpAnyH_take (i := 4) (v := .bool false) rfl (by kernel_rfl) (by kernel_rfl) (by kernel_rfl) (fun _ _ _ h => h) (Or.inl ⟨by rfl, (fun W _ => by go_simp)⟩) b9 ?_
        simp only [List.getElem_toArray, List.getElem_cons_succ, List.getElem_cons_zero, Act.put, List.setIfInBounds_toArray, List.set_cons_zero, List.set_cons_succ]
        refine wpAnyH_take (i := 5) (v := .bool false) rfl (by kernel_rfl) (by kernel_rfl) (by kernel_rfl) (fun _ _ _ h => h) (Or.inl ⟨by rfl, (fun W _ => by go_simp)⟩) b9 ?_
        simp only [List.getElem_toArray, List.getElem_cons_succ, List.getElem_cons_zero, Act.put, List.setIfInBounds_toArray, List.set_cons_zero, List.set_cons_succ]
        refine wpAnyH_take (i := 6) (v := .slice (some ⟨g, off, none⟩) (40 + n2 % 64) c5) rfl (by kernel_rfl) (by kernel_rfl) (by kernel_rfl) (fun _ _ _ h => h) (Or.inl ⟨by rfl, (fun W _ => by go_simp)⟩) b9 ?_
        simp only [List.getElem_toArray, List.getElem_cons_succ, List.getElem_cons_zero, Act.put, List.setIfInBounds_toArray, List.set_cons_zero, List.set_cons_succ]
        refine wpAnyH_take (i := 7) (v := .string (strOfNums SV)) rfl (by kernel_rfl) (by kernel_rfl) (by kernel_rfl) (fun _ _ _ h => h) (Or.inl ⟨by rfl, (fun W hW => by have hcv := HD.out W hW; go_simp)⟩) b9 ?_
        simp only [List.getElem_toArray, List.getElem_cons_succ, List.getElem_cons_zero, Act.put, List.setIfInBounds_toArray, List.set_cons_zero, List.set_cons_succ]
        refine wpAnyH_take (i := 8) (v := .pointer (some ⟨rb, 0, none⟩)) rfl (by kernel_rfl) (by kernel_rfl) (by kernel_rfl) (fun _ _ _ h => h) (Or.inl ⟨by rfl, (fun W _ => by go_simp)⟩) b9 ?_
        simp only [List.getElem_toArray, List.getElem_cons_succ, List.getElem_cons_zero, Act.put, List.setIfInBounds_toArray, List.set_cons_zero, List.set_cons_succ]
        refine wpAnyH_ready (rs := [9]) (by kernel_rfl) (by simp) ?_
        refine AllReadyH.cons rfl (fun K hK => ?_) AllReadyH.nil
        go_simp
        refine (HC.out _ b9).mono ?_
        rintro e w10 ⟨v10, rfl, ho10, H10⟩; have b10 := b9.trans (H10.mono b9.size); obtain ⟨A10, c10, rfl, _, hr10, _⟩ := ho10.form; obtain ⟨g10, off10, rfl, _, _⟩ := row_open hr10 (by omega); have bR : Below w10.heap.size w10 w10 := Below.refl _ _
        refine hK.out _ _ b10 (fun _ => ?_)
        clear hK K
        have hcv10 := conv22 (c := c10) (by omega) hr10
        refine wpAnyH_ready (rs := [10]) (by kernel_rfl) (by simp) ?_
        refine AllReadyH.cons rfl (fun K hK => ?_) AllReadyH.nil
        go_simp
        refine hK.out _ _ b10 (fun _ => ?_)
        clear hK K
        refine wpAnyH_take (i := 11) (v := .bool false) rfl (by kernel_rfl) (by kernel_rfl) (by kernel_rfl) (fun _ _ _ h => h) (Or.inl ⟨by rfl, (fun W _ => by go_simp)⟩) b10 ?_
        simp only [List.getElem_toArray, List.getElem_cons_succ, List.getElem_cons_zero, Act.put, List.setIfInBounds_toArray, List.set_cons_zero, List.set_cons_succ]
        refine wpAnyH_take (i := 12) (v := .bool false) rfl (by kernel_rfl) (by kernel_rfl) (by kernel_rfl) (fun _ _ _ h => h) (Or.inl ⟨by rfl, (fun W _ => by go_simp)⟩) b10 ?_
        simp only [List.getElem_toArray, List.getElem_cons_succ, List.getElem_cons_zero, Act.put, List.setIfInBounds_toArray, List.set_cons_zero, List.set_cons_succ]
        refine wpAnyH_done (by kernel_rfl) ?_ _
        have bX : Below we.heap.size we w10 := hbd.trans b10
        have hbelF := hbelE.trans (bX.mono hbelE.size)
        have hsX := hs5.kept bX
        have hrX := hr5.kept bX
        have hvX := hv5.kept bX
        have hoX := ho6.kept bX
        have hr5X := row_below bX hr5w
        have mk : ∀ (W : World) (sbx : Nat) (bfx : List Int), bfx.length = 64 → Byt bfx → bfx.take (n2 % 64) = (run st0 T2).2 → Has W sbx 49 (smCells (run st0 T2).1 n2 bfx) → w.heap.size ≤ sbx → Below w10.heap.size w10 W → At w (cat Z (k + 1)) sbx rb (.slice A4 n2 c4) W := by
          intro W sbx bfx q1 q2 q3 q4 q5 q6
          rw [hnx]
          refine ⟨bfx, v3, q1, q2, ?_, ?_, ?_, (hvX.kept q6).lower (Nat.zero_le _), ?_, hbelF.trans (q6.mono hbelF.size), q5, hrb⟩
          · rw [hT2l]; exact q3
          · rw [hT2l]; exact q4
          · rw [hT2l]; exact hrX.kept q6
          · rw [hT2l]; exact hoX.kept q6
        have HM := Lib.hid mk
        have cb := hcb w10 hbelF
        clear mk HA HB HC HD heq bE b8 b9 b10 H8 H9 H10 hbd hs5 hr5 hv5 ho6 hr5w hr6w ho5 hr10 ho10 hcv10 hck hcb hrX hvX hoX bR
        cases hB : B k with
        | true =>
          rw [hB] at cb
          go_wp2_with fail
          refine (restore_any n2 _ _ g off c5 _ hX2 hRl2.out hcc5 (by omega) (by rw [hSV]; exact hr5X)).mono ?_
          rintro e w11 ⟨sb2, bf3, rfl, hsb2, hl3, hbb3, htk3, hs6, H11⟩
          rw [hRl2.out] at htk3
          have hat2 := Lib.hid (HM.out w11 sb2 bf3 hl3 hbb3 htk3 hs6 (Nat.le_trans hbelF.size hsb2) H11)
          clear hs6 hl3 htk3
          go_wp2_with (go_at_call 18; (with_reducible refine (num_any _).mono ?_); rintro e w' ⟨rfl, rfl⟩)
          go_roundw
          case rel => exact ⟨k + 1, sb2, by omega, rfl, by go_num, by rw [hnx, hT2l]; exact hn2b, hat2.out⟩
          case measure => simp [kOf, intOf]; omega
        | false =>
          rw [hB] at cb
          have hat2 := Lib.hid (HM.out w10 sb bf2 HL2.out hbb2 HT2.out hsX hsb (Below.refl _ _))
          go_wp2_with fail
          go_roundw
          case rel => exact ⟨k + 1, sb, by omega, rfl, by go_num, by rw [hnx, hT2l]; exact hn2b, hat2.out⟩
          case measure => simp [kOf, intOf]; omega


      · have iL : (300 : Int) < (L k : Int) := by omega
        go_wp2
        go_ret
        exact ⟨rfl, hbel⟩
    · have hkl2 : k = len0 := by omega
      have hnk : ¬ (k : Int) < (len0 : Int) := by omega
      generalize cat Z k = T at *
      obtain ⟨A4, c4, rfl, hcc, hrw, _⟩ := h8.form
      have hX := run_ok st0_ok h8.2
      have hTn : T.length ≤ 6000 := by omega
      have hsl := Lib.hid (show (shaI T).length = 32 from rfl)
      have heq := eq24 (shaI T) hsl.out
      have hsum := sum_any sb T.length _ bf wr hX hbl hbb hs (ht.kept hbel) (by omega)
      rw [hbt, show sumI (run st0 T).1 T.length (run st0 T).2 = shaI T from rfl] at hsum
      clear hbl hbt hs hr hv
      go_wp2_with fail
      refine hsum.mono ?_
      rintro e wx ⟨rfl, Hx⟩
      clear hsum
      go_wp2_with fail
      refine (rsha_any A4 T.length c4 T _ (row_below Hx hrw) hcc (by omega)).mono ?_
      rintro e wy ⟨rfl, Hy⟩
      have hfin := hbel.trans (Hx.mono hbel.size)
      have hfin2 := hfin.trans (Hy.mono hfin.size)
      go_wp2
      go_ret
      exact ⟨rfl, hfin2⟩
end Go.Proofs.YtllpcpjnajdfkaaDoor.shaParts
