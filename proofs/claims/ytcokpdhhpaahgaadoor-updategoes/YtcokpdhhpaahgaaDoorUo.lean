/-
  A request to begin, as the program does it; conditions: what is kept is of 64 bits, of two slots; the digest is of 32 bytes, the bytes are read as a row.
-/
import Derived.Test.YtcokpdhhpaahgaaDoorUn
import Derived.Test.YtcokpdhhpaahgaaDoorMMa
import Derived.Test.YtcokpdhhpaahgaaDoorMMb
import Derived.Deep.RegionHeld3
import Derived.Deep.Cut
namespace Go.Proofs.YtcokpdhhpaahgaaDoor
open Go.RowKit
set_option linter.unusedVariables false
set_option linter.unusedSimpArgs false

theorem told_is {bs : List Int} (hb : Byt bs) (h : Man.Good bs) : (imOf (Man.told bs)).Ok :=
  ⟨Man.dig_len h.1, fun x hx => hb x (List.mem_of_mem_drop (List.mem_of_mem_take hx)), by have := h.2.2.2.1; unfold Man.Num at this; show I64 (Man.verL bs); unfold I64; omega, by have := h.2.2.2.2; unfold Man.Num at this; show I64 (Man.sizL bs); unfold I64; omega⟩
theorem readM_len {bs : List Int} : (Man.readM bs).dig.length = 32 := by
  by_cases h : Man.Good bs
  · rw [Man.readM_yes h]; exact Man.dig_len h.1
  · rw [Man.readM_no h]; exact Man.zero_len
/-- The image of which a manifest tells, read out of its middle. -/
theorem ld_told {w : World} {p : Nat} {x : Man.Mn} (hg : Has w p 52 x.cells) (hl : x.dig.length = 32) : (Instr.loadAt 24 (.pointer (some ⟨p, 1, none⟩))).run Tryd.prog w = .ok (.agg (imOf x).cells) w := by
  have hlen : (imOf x).list.length = 34 := by simp [imOf, Im.list, nums, hl]
  refine run_loadAt_mid w p 1 24 (imOf x).list _ ?_ Tryd.underlying24 rfl (by rw [hlen]; kernel_rfl)
  intro j v hv
  rw [hg.at, Nat.add_comm]
  simp only [Man.Mn.cells, List.getElem?_toArray]
  show (Value.string x.name :: (Value.int .i64 x.ver :: Value.int .i64 x.size :: nums x.dig))[j + 1]? = _
  rw [List.getElem?_cons_succ]
  exact hv
/-- A manifest that was read is stored into a block of its own. -/
theorem wpList_man {w : World} {ops : Array Oper} {rest : List Oper} {o : Oper} {a : Act} {Q : Exit → Act → World → Prop} (hgd : o.guard = none) (x y : Operand) (ho : o.op = .store 52 x y)
    (g : Nat) (m : Man.Mn) (hx : a.eval x = .pointer (some ⟨g, 0, none⟩)) (hy : a.eval y = .agg m.cells) (w1 : World) (hw : w = w1.alloc (.cells Man.zeroM.cells 52)) (hg : g = w1.heap.size) (hl : m.dig.length = 32)
    (h : ∀ w', Has w' g 52 m.cells → Below w1.heap.size w1 w' → g < w'.heap.size → wpList Tryd.prog ops Q rest (a.put o.dst undef) w') : wpList Tryd.prog ops Q (o :: rest) a w := by
  subst hw hg
  refine wpList_row hgd 52 x y ho _ m.cells hx hy 52 _ (has_new w1 52 Man.zeroM.cells) (Man.size27 hl) (Man.old27 Man.zero_len hl) (Man.mn_all _) ?_
  intro w' hs on
  exact h w' hs (((Below.refl _ _).alloc (Nat.le_refl _) _).trans (on.to_below (by simp) (fun b e => by omega))) hs.size
set_option maxRecDepth 100000 in
set_option maxHeartbeats 4000000 in
theorem begin_any (m : Mt) (q : Rq) (f : Fc) (quota : Int) (w : World) (hm : m.Ok) (hf : f.Ok) (hqu : I64 quota) (ha : m.act = 0 ∨ m.act = 1) (hr : Row w q.A q.len q.bs) (hc : q.len ≤ q.cap) (hn : q.len ≤ 1000000) : Calls Tryd.prog 21 #[.agg m.cells, .agg q.cells, .agg f.cells, .int .i64 quota] w (Does (beginM m q.bs f quota) w) := by
  have hz27 := zero27_run
  have hz36 := zero36_run
  have hz52 := Man.zero27_run
  have G := Lib.hid (gq_new q w hm hf)
  have HBT := Lib.hid hr.2.1
  have HR0 := Lib.hid (Man.read_any q.A q.len q.cap q.bs _ (row_lt hr (Nat.le_refl _) G.out.hb) hc hn)
  have HMC := Lib.hid (fun (i : Im) (hi : i.Ok) W => mayCome_any m i f quota W hm hi hf hqu)
  obtain ⟨kind, num, A, len, cap, bs⟩ := q
  simp only at HBT HR0 ⊢
  clear hr hc hn hqu
  obtain ⟨act, h0, h1, least, phase, com, gott, trials⟩ := m
  simp only at ha
  clear hm hf
  by_cases hp : phase = 0
  rotate_left
  · have HP := Lib.hid hp
    clear ha
    go_enter Tryd.func21, Tryd.ntmps21
    go_wp2_with (first
      | (refine wpList_ld 27 _ rfl _ _ (ld27 G.out.hm G.out.ok) rfl rfl ?_)
      | (refine wpList_ld 28 _ rfl _ _ (ld28 (seen_q G.out.hq).bytes) rfl rfl ?_)
      | (refine wpList_ld 3 _ rfl _ _ (ld3 (seen_of G.out.hm G.out.ok).phase) rfl rfl ?_)
      | (refine wpList_ld 32 _ rfl _ _ (seen_f G.out.hf G.out.okf).all rfl rfl ?_)
      | (go_at_call 20; (with_reducible refine (refuse_any _ _ _ G.out.ok).mono ?_); rintro e w1 ⟨rfl, b1⟩; replace G := Lib.hid (G.out.kept b1); clear b1)
      | (refine wpList_row rfl 27 _ _ rfl (w.heap.size + 1 + 1 + 1) _ rfl rfl 27 _ G.out.ho (size27 G.out.ok) (old27 G.out.oko G.out.ok) (mt_all _) ?_; intro w1 hs on; replace G := Lib.hid (G.out.seto G.out.ok hs on); clear hs on)
      | (refine wpList_row rfl 36 _ _ rfl (w.heap.size + 1 + 1 + 1 + 1) _ rfl rfl 36 _ G.out.hr (size36 _) rfl (rp_all _) ?_; intro w1 hs on; replace G := Lib.hid (G.out.setr hs on); clear hs on))
    exact out_ret (p := 8) (u := 9) rfl _ _ _ _ _ _ _ _ (by unfold beginM; rw [if_pos HP.out]; rfl) rfl rfl rfl (Out.mk G.out.ho G.out.hr G.out.hb) G.out.oko
  subst hp
  by_cases hg : Man.Good bs
  rotate_left
  · have HG := Lib.hid hg
    have HR1 := Lib.hid (HR0.out.mono (fun e w' h => show ∃ v, e = .returned (.tuple #[.agg Man.zeroM.cells, v, .int .i64 6]) ∧ Below _ _ w' from by obtain ⟨v, h1, _, h3⟩ := h; exact ⟨v, by rw [h1, Man.readM_no hg, Man.readE_no hg], h3⟩))
    clear ha hg HR0
    go_enter Tryd.func21, Tryd.ntmps21
    go_wp2_with (first
      | (refine wpList_ld 27 _ rfl _ _ (ld27 G.out.hm G.out.ok) rfl rfl ?_)
      | (refine wpList_ld 28 _ rfl _ _ (ld28 (seen_q G.out.hq).bytes) rfl rfl ?_)
      | (refine wpList_ld 3 _ rfl _ _ (ld3 (seen_of G.out.hm G.out.ok).phase) rfl rfl ?_)
      | (refine wpList_ld 32 _ rfl _ _ (seen_f G.out.hf G.out.okf).all rfl rfl ?_)
      | (go_at_call 20; (with_reducible refine (refuse_any _ _ _ G.out.ok).mono ?_); rintro e w1 ⟨rfl, b1⟩; replace G := Lib.hid (G.out.kept b1); clear b1)
      | (refine wpList_row rfl 27 _ _ rfl (w.heap.size + 1 + 1 + 1) _ rfl rfl 27 _ G.out.ho (size27 G.out.ok) (old27 G.out.oko G.out.ok) (mt_all _) ?_; intro w1 hs on; replace G := Lib.hid (G.out.seto G.out.ok hs on); clear hs on)
      | (refine wpList_row rfl 36 _ _ rfl (w.heap.size + 1 + 1 + 1 + 1) _ rfl rfl 36 _ G.out.hr (size36 _) rfl (rp_all _) ?_; intro w1 hs on; replace G := Lib.hid (G.out.setr hs on); clear hs on)
      | (go_at_call 40; (with_reducible refine HR1.out.mono ?_); rintro e w1 ⟨v, rfl, b1⟩; replace G := Lib.hid (G.out.kept b1); clear b1 HR1)
      | (refine wpList_man rfl _ _ rfl w1.heap.size Man.zeroM rfl rfl w1 rfl rfl Man.zero_len ?_; intro w2 hP b2 hlt; have P := Lib.hid hP; have HPB := Lib.hid (show w.heap.size < w1.heap.size from Nat.lt_of_le_of_lt (by omega) G.out.hr.size); replace G := Lib.hid (G.out.kept b2); clear b2 hlt hP; generalize w1.heap.size = p at P HPB ⊢))
    exact out_ret (p := 8) (u := 9) rfl _ _ _ _ _ _ _ _ (by unfold beginM; rw [if_neg (not_not_intro rfl), if_pos HG.out]; rfl) rfl rfl rfl (Out.mk G.out.ho G.out.hr G.out.hb) G.out.oko
  have HG := Lib.hid hg
  have HR1 := Lib.hid (HR0.out.mono (fun e w' h => show ∃ v, e = .returned (.tuple #[.agg (Man.told bs).cells, v, .int .i64 0]) ∧ Below _ _ w' from by obtain ⟨v, h1, _, h3⟩ := h; exact ⟨v, by rw [h1, Man.readM_yes hg, Man.readE_yes hg], h3⟩))
  have HTL := Lib.hid (show (Man.told bs).dig.length = 32 from Man.dig_len hg.1)
  have HTO := Lib.hid (told_is HBT.out hg)
  obtain ⟨E, hE⟩ : ∃ E, mayE ⟨act, h0, h1, least, 0, com, gott, trials⟩ (imOf (Man.told bs)) f quota = E := ⟨_, rfl⟩
  have HM1 := HMC.out (imOf (Man.told bs)) HTO.out
  rw [hE] at HM1
  have HM := Lib.hid HM1
  have HE := Lib.hid hE
  clear hg HR0 HM1 HMC hE
  by_cases he : E = 0
  rotate_left
  · have HEE := Lib.hid he
    clear ha
    go_enter Tryd.func21, Tryd.ntmps21
    go_wp2_with (first
      | (refine wpList_ld 27 _ rfl _ _ (ld27 G.out.hm G.out.ok) rfl rfl ?_)
      | (refine wpList_ld 28 _ rfl _ _ (ld28 (seen_q G.out.hq).bytes) rfl rfl ?_)
      | (refine wpList_ld 3 _ rfl _ _ (ld3 (seen_of G.out.hm G.out.ok).phase) rfl rfl ?_)
      | (refine wpList_ld 32 _ rfl _ _ (seen_f G.out.hf G.out.okf).all rfl rfl ?_)
      | (go_at_call 20; (with_reducible refine (refuse_any _ _ _ G.out.ok).mono ?_); rintro e w1 ⟨rfl, b1⟩; replace G := Lib.hid (G.out.kept b1); clear b1)
      | (refine wpList_row rfl 27 _ _ rfl (w.heap.size + 1 + 1 + 1) _ rfl rfl 27 _ G.out.ho (size27 G.out.ok) (old27 G.out.oko G.out.ok) (mt_all _) ?_; intro w1 hs on; replace G := Lib.hid (G.out.seto G.out.ok hs on); clear hs on)
      | (refine wpList_row rfl 36 _ _ rfl (w.heap.size + 1 + 1 + 1 + 1) _ rfl rfl 36 _ G.out.hr (size36 _) rfl (rp_all _) ?_; intro w1 hs on; replace G := Lib.hid (G.out.setr hs on); clear hs on)
      | (go_at_call 40; (with_reducible refine HR1.out.mono ?_); rintro e w1 ⟨v, rfl, b1⟩; replace G := Lib.hid (G.out.kept b1); clear b1 HR1)
      | (refine wpList_man rfl _ _ rfl w1.heap.size (Man.told bs) rfl rfl w1 rfl rfl HTL.out ?_; intro w2 hP b2 hlt; have P := Lib.hid hP; have HPB := Lib.hid (show w.heap.size < w1.heap.size from Nat.lt_of_le_of_lt (by omega) G.out.hr.size); replace G := Lib.hid (G.out.kept b2); clear b2 hlt hP; generalize w1.heap.size = p at P HPB ⊢)
      | (refine wpList_ld 24 _ rfl _ _ (ld_told P.out HTL.out) rfl rfl ?_)
      | (go_at_call 41; (with_reducible refine (HM.out _).mono ?_); rintro e w1 ⟨rfl, b1⟩; replace G := Lib.hid (G.out.kept b1); replace P := Lib.hid (P.out.kept b1); clear b1 HM))
    exact out_ret (p := 8) (u := 9) rfl _ _ _ _ _ _ _ _ (by unfold beginM; rw [if_neg (not_not_intro rfl), if_neg (not_not_intro HG.out), HE.out, if_pos HEE.out]; rfl) rfl rfl rfl (Out.mk G.out.ho G.out.hr G.out.hb) G.out.oko
  subst he
  rcases ha with rfl | rfl
  · skip
    go_enter Tryd.func21, Tryd.ntmps21
    go_upto_region 9 with (first
      | (refine wpList_ld 27 _ rfl _ _ (ld27 G.out.hm G.out.ok) rfl rfl ?_)
      | (refine wpList_ld 28 _ rfl _ _ (ld28 (seen_q G.out.hq).bytes) rfl rfl ?_)
      | (refine wpList_ld 3 _ rfl _ _ (ld3 (seen_of G.out.hm G.out.ok).phase) rfl rfl ?_)
      | (refine wpList_ld 32 _ rfl _ _ (seen_f G.out.hf G.out.okf).all rfl rfl ?_)
      | (go_at_call 20; (with_reducible refine (refuse_any _ _ _ G.out.ok).mono ?_); rintro e w1 ⟨rfl, b1⟩; replace G := Lib.hid (G.out.kept b1); clear b1)
      | (refine wpList_row rfl 27 _ _ rfl (w.heap.size + 1 + 1 + 1) _ rfl rfl 27 _ G.out.ho (size27 G.out.ok) (old27 G.out.oko G.out.ok) (mt_all _) ?_; intro w1 hs on; replace G := Lib.hid (G.out.seto G.out.ok hs on); clear hs on)
      | (refine wpList_row rfl 36 _ _ rfl (w.heap.size + 1 + 1 + 1 + 1) _ rfl rfl 36 _ G.out.hr (size36 _) rfl (rp_all _) ?_; intro w1 hs on; replace G := Lib.hid (G.out.setr hs on); clear hs on)
      | (go_at_call 40; (with_reducible refine HR1.out.mono ?_); rintro e w1 ⟨v, rfl, b1⟩; replace G := Lib.hid (G.out.kept b1); clear b1 HR1)
      | (refine wpList_man rfl _ _ rfl w1.heap.size (Man.told bs) rfl rfl w1 rfl rfl HTL.out ?_; intro w2 hP b2 hlt; have P := Lib.hid hP; have HPB := Lib.hid (show w.heap.size < w1.heap.size from Nat.lt_of_le_of_lt (by omega) G.out.hr.size); replace G := Lib.hid (G.out.kept b2); clear b2 hlt hP; generalize w1.heap.size = p at P HPB ⊢)
      | (refine wpList_ld 24 _ rfl _ _ (ld_told P.out HTL.out) rfl rfl ?_)
      | (go_at_call 41; (with_reducible refine (HM.out _).mono ?_); rintro e w1 ⟨rfl, b1⟩; replace G := Lib.hid (G.out.kept b1); replace P := Lib.hid (P.out.kept b1); clear b1 HM))
    refine wp_region_held_drew (S := fun W => Has W p 52 (Man.told bs).cells) (by kernel_rfl) P.out ?_
    intro hp0
    replace P := Lib.hid hp0
    clear hp0
    replace G := Lib.hid G.out.drew
    refine wpAnyH_take (i := 0) (v := .pointer (some ⟨p, 1, none⟩)) rfl (by kernel_rfl) (by kernel_rfl) (by kernel_rfl) (fun _ _ _ h => h) (Or.inl ⟨by rfl, (fun W _ => by go_simp)⟩) P.out ?_
    simp only [List.getElem_toArray, List.getElem_cons_succ, List.getElem_cons_zero, Act.put, List.setIfInBounds_toArray, List.set_cons_zero, List.set_cons_succ]
    refine wpAnyH_take (i := 1) (v := .agg (imOf (Man.told bs)).cells) rfl (by kernel_rfl) (by kernel_rfl) (by kernel_rfl) (fun _ _ _ h => h) (yields_ld (by rfl) 24 (.tmp 48) rfl _ _ (fun W hW => ld_told hW HTL.out) rfl) P.out ?_
    simp only [List.getElem_toArray, List.getElem_cons_succ, List.getElem_cons_zero, Act.put, List.setIfInBounds_toArray, List.set_cons_zero, List.set_cons_succ]
    refine wpAnyH_take (i := 2) (v := .pointer (some ⟨w.heap.size, 70, none⟩)) rfl (by kernel_rfl) (by kernel_rfl) (by kernel_rfl) (fun _ _ _ h => h) (Or.inl ⟨by rfl, (fun W _ => by go_simp)⟩) P.out ?_
    simp only [List.getElem_toArray, List.getElem_cons_succ, List.getElem_cons_zero, Act.put, List.setIfInBounds_toArray, List.set_cons_zero, List.set_cons_succ]
    refine wpAnyH_ready (rs := [3]) (by kernel_rfl) (by simp) ?_
    refine AllReadyH.cons rfl (fun K hK => ?_) AllReadyH.nil
    refine step_st3 rfl _ _ rfl w.heap.size 70 _ rfl rfl _ _ G.out.hm (by omega) (mt_set70 _ G.out.ok) G.out.ok ?_
    intro w1 hs on; replace P := Lib.hid (Has.only P.out on (by have := HPB.out; show ¬ p = w.heap.size; omega)); replace G := Lib.hid (G.out.set (ok_phase G.out.ok (by unfold I64; omega)) hs on); clear hs on
    refine hK.out _ _ P.out (fun _ => ?_)
    clear hK K
    refine wpAnyH_take (i := 4) (v := .pointer (some ⟨w.heap.size, 71, none⟩)) rfl (by kernel_rfl) (by kernel_rfl) (by kernel_rfl) (fun _ _ _ h => h) (Or.inl ⟨by rfl, (fun W _ => by go_simp)⟩) P.out ?_
    simp only [List.getElem_toArray, List.getElem_cons_succ, List.getElem_cons_zero, Act.put, List.setIfInBounds_toArray, List.set_cons_zero, List.set_cons_succ]
    refine wpAnyH_ready (rs := [5]) (by kernel_rfl) (by simp) ?_
    refine AllReadyH.cons rfl (fun K hK => ?_) AllReadyH.nil
    refine step_st24 rfl _ _ rfl w.heap.size 71 _ rfl rfl _ _ G.out.ok HTO.out G.out.hm (mt_put2 _ G.out.ok HTO.out) (by omega) ?_
    intro w1 hs on; replace P := Lib.hid (Has.only P.out on (by have := HPB.out; show ¬ p = w.heap.size; omega)); replace G := Lib.hid (G.out.set (ok_com G.out.ok HTO.out) hs on); clear hs on
    refine hK.out _ _ P.out (fun _ => ?_)
    clear hK K
    refine wpAnyH_take (i := 6) (v := .pointer (some ⟨w.heap.size, 105, none⟩)) rfl (by kernel_rfl) (by kernel_rfl) (by kernel_rfl) (fun _ _ _ h => h) (Or.inl ⟨by rfl, (fun W _ => by go_simp)⟩) P.out ?_
    simp only [List.getElem_toArray, List.getElem_cons_succ, List.getElem_cons_zero, Act.put, List.setIfInBounds_toArray, List.set_cons_zero, List.set_cons_succ]
    refine wpAnyH_ready (rs := [7]) (by kernel_rfl) (by simp) ?_
    refine AllReadyH.cons rfl (fun K hK => ?_) AllReadyH.nil
    refine step_st3 rfl _ _ rfl w.heap.size 105 _ rfl rfl _ _ G.out.hm (by omega) (mt_set105 _ G.out.ok) G.out.ok ?_
    intro w1 hs on; replace P := Lib.hid (Has.only P.out on (by have := HPB.out; show ¬ p = w.heap.size; omega)); replace G := Lib.hid (G.out.set (ok_gott G.out.ok i64_zero) hs on); clear hs on
    refine hK.out _ _ P.out (fun _ => ?_)
    clear hK K
    refine wpAnyH_done (by kernel_rfl) ?_ _
    go_wp2_with (first
      | (refine wpList_ld 27 _ rfl _ _ (ld27 G.out.hm G.out.ok) rfl rfl ?_)
      | (go_at_call 42; (with_reducible refine (other_any _ 1 _ G.out.ok rfl (.inl rfl)).mono ?_); rintro e w1 ⟨rfl, b1⟩; replace G := Lib.hid (G.out.kept b1); clear b1)
      | (refine wpList_build_to rfl 24 _ rfl _ built24 ?_)
      | (refine wpList_build_to rfl 36 _ rfl _ built36 ?_)
      | (refine wpList_st24 rfl _ _ rfl w.heap.size 35 _ rfl rfl _ _ G.out.ok zeroI_ok G.out.hm (mt_put1 _ G.out.ok zeroI_ok) (by omega) ?_; intro w1 hs on; replace G := Lib.hid (G.out.set (ok_h1 G.out.ok zeroI_ok) hs on); clear hs on)
      | (refine wpList_row rfl 27 _ _ rfl (w.heap.size + 1 + 1 + 1) _ rfl rfl 27 _ G.out.ho (size27 G.out.ok) (old27 G.out.oko G.out.ok) (mt_all _) ?_; intro w1 hs on; replace G := Lib.hid (G.out.seto G.out.ok hs on); clear hs on)
      | (refine wpList_row rfl 36 _ _ rfl (w.heap.size + 1 + 1 + 1 + 1) _ rfl rfl 36 _ G.out.hr (size36 _) rfl (rp_all _) ?_; intro w1 hs on; replace G := Lib.hid (G.out.setr hs on); clear hs on))
    exact out_ret (p := 8) (u := 9) rfl _ _ _ _ _ _ _ _ (by unfold beginM; rw [if_neg (not_not_intro rfl), if_neg (not_not_intro HG.out), HE.out, if_neg (not_not_intro rfl)]; rfl) rfl rfl rfl (Out.mk G.out.ho G.out.hr G.out.hb) G.out.oko
  · skip
    go_enter Tryd.func21, Tryd.ntmps21
    go_upto_region 9 with (first
      | (refine wpList_ld 27 _ rfl _ _ (ld27 G.out.hm G.out.ok) rfl rfl ?_)
      | (refine wpList_ld 28 _ rfl _ _ (ld28 (seen_q G.out.hq).bytes) rfl rfl ?_)
      | (refine wpList_ld 3 _ rfl _ _ (ld3 (seen_of G.out.hm G.out.ok).phase) rfl rfl ?_)
      | (refine wpList_ld 32 _ rfl _ _ (seen_f G.out.hf G.out.okf).all rfl rfl ?_)
      | (go_at_call 20; (with_reducible refine (refuse_any _ _ _ G.out.ok).mono ?_); rintro e w1 ⟨rfl, b1⟩; replace G := Lib.hid (G.out.kept b1); clear b1)
      | (refine wpList_row rfl 27 _ _ rfl (w.heap.size + 1 + 1 + 1) _ rfl rfl 27 _ G.out.ho (size27 G.out.ok) (old27 G.out.oko G.out.ok) (mt_all _) ?_; intro w1 hs on; replace G := Lib.hid (G.out.seto G.out.ok hs on); clear hs on)
      | (refine wpList_row rfl 36 _ _ rfl (w.heap.size + 1 + 1 + 1 + 1) _ rfl rfl 36 _ G.out.hr (size36 _) rfl (rp_all _) ?_; intro w1 hs on; replace G := Lib.hid (G.out.setr hs on); clear hs on)
      | (go_at_call 40; (with_reducible refine HR1.out.mono ?_); rintro e w1 ⟨v, rfl, b1⟩; replace G := Lib.hid (G.out.kept b1); clear b1 HR1)
      | (refine wpList_man rfl _ _ rfl w1.heap.size (Man.told bs) rfl rfl w1 rfl rfl HTL.out ?_; intro w2 hP b2 hlt; have P := Lib.hid hP; have HPB := Lib.hid (show w.heap.size < w1.heap.size from Nat.lt_of_le_of_lt (by omega) G.out.hr.size); replace G := Lib.hid (G.out.kept b2); clear b2 hlt hP; generalize w1.heap.size = p at P HPB ⊢)
      | (refine wpList_ld 24 _ rfl _ _ (ld_told P.out HTL.out) rfl rfl ?_)
      | (go_at_call 41; (with_reducible refine (HM.out _).mono ?_); rintro e w1 ⟨rfl, b1⟩; replace G := Lib.hid (G.out.kept b1); replace P := Lib.hid (P.out.kept b1); clear b1 HM))
    refine wp_region_held_drew (S := fun W => Has W p 52 (Man.told bs).cells) (by kernel_rfl) P.out ?_
    intro hp0
    replace P := Lib.hid hp0
    clear hp0
    replace G := Lib.hid G.out.drew
    refine wpAnyH_take (i := 0) (v := .pointer (some ⟨p, 1, none⟩)) rfl (by kernel_rfl) (by kernel_rfl) (by kernel_rfl) (fun _ _ _ h => h) (Or.inl ⟨by rfl, (fun W _ => by go_simp)⟩) P.out ?_
    simp only [List.getElem_toArray, List.getElem_cons_succ, List.getElem_cons_zero, Act.put, List.setIfInBounds_toArray, List.set_cons_zero, List.set_cons_succ]
    refine wpAnyH_take (i := 1) (v := .agg (imOf (Man.told bs)).cells) rfl (by kernel_rfl) (by kernel_rfl) (by kernel_rfl) (fun _ _ _ h => h) (yields_ld (by rfl) 24 (.tmp 48) rfl _ _ (fun W hW => ld_told hW HTL.out) rfl) P.out ?_
    simp only [List.getElem_toArray, List.getElem_cons_succ, List.getElem_cons_zero, Act.put, List.setIfInBounds_toArray, List.set_cons_zero, List.set_cons_succ]
    refine wpAnyH_take (i := 2) (v := .pointer (some ⟨w.heap.size, 70, none⟩)) rfl (by kernel_rfl) (by kernel_rfl) (by kernel_rfl) (fun _ _ _ h => h) (Or.inl ⟨by rfl, (fun W _ => by go_simp)⟩) P.out ?_
    simp only [List.getElem_toArray, List.getElem_cons_succ, List.getElem_cons_zero, Act.put, List.setIfInBounds_toArray, List.set_cons_zero, List.set_cons_succ]
    refine wpAnyH_ready (rs := [3]) (by kernel_rfl) (by simp) ?_
    refine AllReadyH.cons rfl (fun K hK => ?_) AllReadyH.nil
    refine step_st3 rfl _ _ rfl w.heap.size 70 _ rfl rfl _ _ G.out.hm (by omega) (mt_set70 _ G.out.ok) G.out.ok ?_
    intro w1 hs on; replace P := Lib.hid (Has.only P.out on (by have := HPB.out; show ¬ p = w.heap.size; omega)); replace G := Lib.hid (G.out.set (ok_phase G.out.ok (by unfold I64; omega)) hs on); clear hs on
    refine hK.out _ _ P.out (fun _ => ?_)
    clear hK K
    refine wpAnyH_take (i := 4) (v := .pointer (some ⟨w.heap.size, 71, none⟩)) rfl (by kernel_rfl) (by kernel_rfl) (by kernel_rfl) (fun _ _ _ h => h) (Or.inl ⟨by rfl, (fun W _ => by go_simp)⟩) P.out ?_
    simp only [List.getElem_toArray, List.getElem_cons_succ, List.getElem_cons_zero, Act.put, List.setIfInBounds_toArray, List.set_cons_zero, List.set_cons_succ]
    refine wpAnyH_ready (rs := [5]) (by kernel_rfl) (by simp) ?_
    refine AllReadyH.cons rfl (fun K hK => ?_) AllReadyH.nil
    refine step_st24 rfl _ _ rfl w.heap.size 71 _ rfl rfl _ _ G.out.ok HTO.out G.out.hm (mt_put2 _ G.out.ok HTO.out) (by omega) ?_
    intro w1 hs on; replace P := Lib.hid (Has.only P.out on (by have := HPB.out; show ¬ p = w.heap.size; omega)); replace G := Lib.hid (G.out.set (ok_com G.out.ok HTO.out) hs on); clear hs on
    refine hK.out _ _ P.out (fun _ => ?_)
    clear hK K
    refine wpAnyH_take (i := 6) (v := .pointer (some ⟨w.heap.size, 105, none⟩)) rfl (by kernel_rfl) (by kernel_rfl) (by kernel_rfl) (fun _ _ _ h => h) (Or.inl ⟨by rfl, (fun W _ => by go_simp)⟩) P.out ?_
    simp only [List.getElem_toArray, List.getElem_cons_succ, List.getElem_cons_zero, Act.put, List.setIfInBounds_toArray, List.set_cons_zero, List.set_cons_succ]
    refine wpAnyH_ready (rs := [7]) (by kernel_rfl) (by simp) ?_
    refine AllReadyH.cons rfl (fun K hK => ?_) AllReadyH.nil
    refine step_st3 rfl _ _ rfl w.heap.size 105 _ rfl rfl _ _ G.out.hm (by omega) (mt_set105 _ G.out.ok) G.out.ok ?_
    intro w1 hs on; replace P := Lib.hid (Has.only P.out on (by have := HPB.out; show ¬ p = w.heap.size; omega)); replace G := Lib.hid (G.out.set (ok_gott G.out.ok i64_zero) hs on); clear hs on
    refine hK.out _ _ P.out (fun _ => ?_)
    clear hK K
    refine wpAnyH_done (by kernel_rfl) ?_ _
    go_wp2_with (first
      | (refine wpList_ld 27 _ rfl _ _ (ld27 G.out.hm G.out.ok) rfl rfl ?_)
      | (go_at_call 42; (with_reducible refine (other_any _ 0 _ G.out.ok rfl (.inr rfl)).mono ?_); rintro e w1 ⟨rfl, b1⟩; replace G := Lib.hid (G.out.kept b1); clear b1)
      | (refine wpList_build_to rfl 24 _ rfl _ built24 ?_)
      | (refine wpList_build_to rfl 36 _ rfl _ built36 ?_)
      | (refine wpList_st24 rfl _ _ rfl w.heap.size 1 _ rfl rfl _ _ G.out.ok zeroI_ok G.out.hm (mt_put0 _ G.out.ok zeroI_ok) (by omega) ?_; intro w1 hs on; replace G := Lib.hid (G.out.set (ok_h0 G.out.ok zeroI_ok) hs on); clear hs on)
      | (refine wpList_row rfl 27 _ _ rfl (w.heap.size + 1 + 1 + 1) _ rfl rfl 27 _ G.out.ho (size27 G.out.ok) (old27 G.out.oko G.out.ok) (mt_all _) ?_; intro w1 hs on; replace G := Lib.hid (G.out.seto G.out.ok hs on); clear hs on)
      | (refine wpList_row rfl 36 _ _ rfl (w.heap.size + 1 + 1 + 1 + 1) _ rfl rfl 36 _ G.out.hr (size36 _) rfl (rp_all _) ?_; intro w1 hs on; replace G := Lib.hid (G.out.setr hs on); clear hs on))
    exact out_ret (p := 8) (u := 9) rfl _ _ _ _ _ _ _ _ (by unfold beginM; rw [if_neg (not_not_intro rfl), if_neg (not_not_intro HG.out), HE.out, if_neg (not_not_intro rfl)]; rfl) rfl rfl rfl (Out.mk G.out.ho G.out.hr G.out.hb) G.out.oko
end Go.Proofs.YtcokpdhhpaahgaaDoor
