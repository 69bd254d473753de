/-
  The walk of the law UpdateGoes for an image that is allowed, slot 0 running; conditions: as stated.
-/
import Derived.Test.YtcokpdhhpaahgaaDoorWj
import Derived.Deep.Cut
import Derived.Deep.CutRange
namespace Go.Proofs.YtcokpdhhpaahgaaDoor.updateGoes
open Go.RowKit
set_option linter.unusedVariables false
set_option linter.unusedSimpArgs false

set_option maxRecDepth 100000 in
set_option maxHeartbeats 80000000 in
theorem main_0 (h0 h1 com x : Im) (l gt tr : Int) (name : ByteArray) (nb : Nat) (cf : Bool) (w : World) (hm : Mt.Ok ⟨0, h0, h1, l, 0, com, gt, tr⟩) (hx : x.Ok) (may : May ⟨0, h0, h1, l, 0, com, gt, tr⟩ x) (hn : name.size ≤ maxLen) (hv : Nam.validL (Nam.all name) = true) (b1 : 1 ≤ nb) (b5 : nb ≤ 5) :
    Calls Tryd.prog 6 #[.agg (Mt.cells ⟨0, h0, h1, l, 0, com, gt, tr⟩), .string name, .agg x.cells, .int .i64 (nb : Int), .bool cf] w fun e w' => e = .returned (.bool true) ∧ Below w.heap.size w w' := by
  have hz27 := zero27_run
  have hz36 := zero36_run
  have hz30 := zero30_run
  have hz32 := zero32_run
  have HLV := Lib.hid (alive_any ((w.alloc (.cells (Mt.cells ⟨0, h0, h1, l, 0, com, gt, tr⟩) 27)).alloc (.cells x.cells 24)))
  have G := Lib.hid (gw_new w hm hx)
  have HR := Lib.hid (fun W => docRight_is (m := ⟨0, h0, h1, l, 0, com, gt, tr⟩) W hm true may.right)
  have HCF := Lib.hid (fun k f c1 c2 W => rconf_any name k f c1 c2 W hn true hv)
  obtain ⟨hg, ht⟩ := bytes_good may hx hv
  have hmb := bytes_made x name hx
  obtain ⟨bl, hbl⟩ : ∃ bl, Man.byteL [107] ⟨name, x.ver, x.size, x.dig⟩ = bl := ⟨_, rfl⟩
  rw [hbl] at hg ht
  simp only [hbl] at hmb
  have HMB := Lib.hid hmb
  obtain ⟨c, sA, sV, sB, way⟩ := way_of may hm hx hg ht
  rw [(ends_0 h0 h1 l com x gt tr).1, (ends_0 h0 h1 l com x gt tr).2] at way
  have WAY := Lib.hid way
  have XB := Lib.hid (built52 name x.ver x.size x.dig hx.1)
  have FB := Lib.hid (built32d x.dig hx.1)
  have OX := Lib.hid hx
  have OF := Lib.hid (fOf_ok hx)
  have dv1 : decide (x.ver < 1) = false := decide_eq_false (by have := may.v1; omega)
  have dv2 : decide (1073741824 < x.ver) = false := decide_eq_false (by have := may.v2; omega)
  have dv3 : decide (x.ver < l) = false := decide_eq_false (by have : l ≤ x.ver := may.v3; omega)
  have ds1 : decide (x.size < 1) = false := decide_eq_false (by have := may.s1; omega)
  have ds2 : decide (1920 < x.size) = false := decide_eq_false (by have := may.s2; omega)
  have db1 : decide ((nb : Int) < 1) = false := decide_eq_false (by omega)
  have db5 : decide (5 < (nb : Int)) = false := decide_eq_false (by omega)
  have OA0 := Lib.hid (way.okA 0 (by omega))
  have HCH := Lib.hid way.chunk
  have HBEG := Lib.hid way.beg
  clear hmb hg ht hbl hn hv may way hx hm
  go_enter Tryd.func6, Tryd.ntmps6
  go_wp2_with (first
    | (go_at_call 9; (with_reducible refine HLV.out.mono ?_); rintro e wr ⟨rfl, b1⟩; replace G := Lib.hid (G.out.kept b1); clear b1 HLV)
    | (refine wpList_ld 27 _ rfl _ _ (ld27 G.out.hm G.out.ok) rfl rfl ?_)
    | (go_at_call 16; (with_reducible refine (HR.out _).mono ?_); rintro e wr ⟨rfl, b1⟩; replace G := Lib.hid (G.out.kept b1); clear b1 HR; have c0 := (seen_of G.out.hm G.out.ok).phase; have c1 := (seen_of G.out.hm G.out.ok).least; have c2 := xs_ver G.out.hx; have c3 := xs_size G.out.hx; simp only at c0 c1; have k1 := conv_one wr 107; have k2 := conv_two wr (.cells #[.int .u8 107] 5 (1, 2)) 120)
    | (refine wpList_bld 49 _ rfl (cfC name (some ⟨wr.heap.size, 0, none⟩) (some ⟨wr.heap.size + 1, 0, none⟩) 1 1) (by kernel_rfl) rfl ?_; clear c0 c1 c2 c3 k1 k2)
    | (go_at_call 17; (with_reducible refine (HCF.out _ _ _ _ _).mono ?_); rintro e wx ⟨rfl, b1⟩; replace G := Lib.hid ((G.out.kept (((Below.refl _ _).alloc (Nat.le_refl _) _).alloc (by simp) _)).kept b1); clear b1 HCF)
    | (refine wpList_row rfl 27 _ _ rfl wx.heap.size _ rfl rfl 27 zeroT.cells (has_new wx 27 zeroT.cells) (size27 G.out.ok) (old27 zeroT_ok G.out.ok) (mt_all _) ?_; intro wz hs on; replace G := Lib.hid ((G.out.was hs on).more (.cells #[.int .u8 107] 5 (1, 2))); have k3 := conv_one wz 107; have KR := Lib.hid (key_row wz); clear hs on)
    | (refine wpList_ld 24 _ rfl _ _ (ld24w G.out.hx G.out.okx) rfl rfl ?_; clear k3)
    | (refine wpList_bld 52 _ rfl (Man.Mn.cells ⟨name, x.ver, x.size, x.dig⟩) (Eq.trans (b := Tryd.prog.built 52 [(0, .string name), (1, .agg (Im.cells ⟨x.ver, x.size, x.dig⟩))]) (by kernel_rfl) XB.out) rfl ?_; clear XB)
    | (go_at_call 18; (with_reducible refine (HMB.out _ _ KR.out).mono ?_); rintro e wm ⟨vv, rfl, O, b2⟩; obtain ⟨A, cp, rfl, hcp, hrow, hlo⟩ := O.form; replace G := Lib.hid (G.out.kept b2); have ROW := Lib.hid hrow; have HCP := Lib.hid hcp; clear b2 O hrow hcp hlo KR HMB)
    | (refine wpList_ld 22 _ rfl _ _ (xs_dig G.out.hx OX.out) rfl rfl ?_)
    | (refine wpList_bld 32 _ rfl (fOf x).cells (Eq.trans (b := Tryd.prog.built 32 [(0, .bool true), (1, .bool true), (2, .agg (nums x.dig).toArray)]) (by kernel_rfl) FB.out) rfl ?_; clear FB)
    | (refine wpList_row rfl 32 _ _ rfl wm.heap.size _ rfl rfl 32 zeroF.cells (has_new wm 32 zeroF.cells) (size32 OF.out) (fc_size OF.out) (fc_all _) ?_; intro wn hs on; have F := Lib.hid hs; have LF := Lib.hid G.out.hw.size; have BN := below_new on; replace G := Lib.hid (G.out.kept BN); replace ROW := Lib.hid (row_below BN ROW.out); clear hs on BN)
    | (refine wpList_bld 30 _ rfl (Rq.cells ⟨1, 0, A, 92, cp, bl⟩) (by kernel_rfl) rfl ?_)
    | (refine wpList_ld 32 _ rfl _ _ (seen_f F.out OF.out).all rfl rfl ?_)
    | (go_at_call 10; (with_reducible refine (HBEG.out _ _ _ HCP.out ROW.out).mono ?_); rintro e wo ⟨rfl, b4⟩; have D := Lib.hid (Gb.all (G.out.kept b4) (F.out.kept b4) OF.out LF.out); clear b4 HBEG G F ROW HCP LF)
    | (refine wpList_row rfl 27 _ _ rfl w.heap.size _ rfl rfl 27 _ D.out.hm (size27 OA0.out) (old27 D.out.ok OA0.out) (mt_all _) ?_; intro w1 hs on; replace D := Lib.hid (D.out.setm OA0.out hs on); clear hs on)
    | (refine wpList_row rfl 36 _ _ rfl wo.heap.size _ rfl rfl 36 _ D.out.hr (size36 _) rfl (rp_all _) ?_; intro w1 hs on; replace D := Lib.hid (D.out.setr hs on); clear hs on)
    | (refine wpList_ld 34 _ rfl _ _ (ld34' (D.out.hr.at 0)) rfl rfl ?_)
    | (refine wpList_ld 3 _ rfl _ _ (ld3 (xs_size D.out.hx)) rfl rfl ?_)
    | (go_at_call 13; (with_reducible refine (HCH.out _).mono ?_); rintro e w2 ⟨rfl, rfl⟩; clear HCH))
  obtain ⟨p, hp⟩ : ∃ p, wx.heap.size = p := ⟨_, rfl⟩
  obtain ⟨g, hg⟩ : ∃ g, wm.heap.size = g := ⟨_, rfl⟩
  obtain ⟨r, hr⟩ : ∃ r, wo.heap.size = r := ⟨_, rfl⟩
  simp only [hp, hg, hr] at D ⊢
  clear hp hg hr
  clear OA0 dv1 dv2 dv3 ds1 ds2 db1 db5
  go_loopw [17, 18, 19] (Coming w p g r sA ⟨0, h0, h1, l, 0, com, gt, tr⟩ x c) (fun i _ _ _ => c - (intOf i).toNat)
  case atStart => exact ⟨0, rfl, Nat.zero_le _, D.out⟩
  case round =>
    clear D
    obtain ⟨k, rfl, hk, hD⟩ := hrel
    have D := Lib.hid hD
    clear hD
    by_cases hkc : k < c
    · have dkc : decide ((k : Int) < (c : Int)) = true := decide_eq_true (by omega)
      obtain ⟨n, hn, hN, hW⟩ := WAY.out.wri k hkc
      have HN := Lib.hid hN
      have HW := Lib.hid hW
      have ON := Lib.hid (WAY.out.okA (k + 1) (by have := WAY.out.c6; omega))
      have hmk : ∀ W : World, (Instr.makeSlice 28 (.int .i64 (n : Int)) (.int .i64 (n : Int))).run Tryd.prog W = .ok (.slice (some ⟨W.heap.size, 0, none⟩) n n) (W.alloc (.cells (zeroBytes n) 5)) := fun W => make_bytes .i64 .i64 n n (Nat.le_refl _) (by omega) W
      have hc6 : c ≤ 6 := WAY.out.c6
      clear hN hW
      go_wp2_with fail
      go_cut [18, 19] from 111 to 132 (fun s18 s19 wx => ∃ p' u, s18 = .pointer (some ⟨p', 0, none⟩) ∧ s19 = .pointer (some ⟨u, 0, none⟩) ∧ Came w p g r (sA k) ⟨0, h0, h1, l, 0, com, gt, tr⟩ x p' u (sA (k + 1)) wx)
      case first =>
        refine wp_region_held_drew (S := (fun W => Has W w.heap.size 27 (sA k).cells ∧ Has W (w.heap.size + 1) 24 x.cells ∧ Has W g 32 (fOf x).cells)) (by kernel_rfl) ⟨D.out.hm, D.out.hx, D.out.hf⟩ ?_
        intro _
        replace D := Lib.hid D.out.drew
        refine wpAnyH_take (i := 1) (v := .int .i64 (k : Int)) rfl (by kernel_rfl) (by kernel_rfl) (by kernel_rfl) (fun _ _ _ h => h) (Or.inl ⟨by rfl, (fun W _ => by go_simp)⟩) ⟨D.out.hm, D.out.hx, D.out.hf⟩ ?_
        simp only [List.getElem_toArray, List.getElem_cons_succ, List.getElem_cons_zero, Act.put, List.setIfInBounds_toArray, List.set_cons_zero, List.set_cons_succ]
        refine wpAnyH_take (i := 2) (v := .pointer (some ⟨w.heap.size + 1, 1, none⟩)) rfl (by kernel_rfl) (by kernel_rfl) (by kernel_rfl) (fun _ _ _ h => h) (Or.inl ⟨by rfl, (fun W _ => by go_simp)⟩) ⟨D.out.hm, D.out.hx, D.out.hf⟩ ?_
        simp only [List.getElem_toArray, List.getElem_cons_succ, List.getElem_cons_zero, Act.put, List.setIfInBounds_toArray, List.set_cons_zero, List.set_cons_succ]
        refine wpAnyH_take (i := 3) (v := .int .i64 x.size) rfl (by kernel_rfl) (by kernel_rfl) (by kernel_rfl) (fun _ _ _ h => h) (yields_ld (by rfl) 3 (.tmp 119) rfl _ _ (fun W hW => ld3 (xs_size hW.2.1)) rfl) ⟨D.out.hm, D.out.hx, D.out.hf⟩ ?_
        simp only [List.getElem_toArray, List.getElem_cons_succ, List.getElem_cons_zero, Act.put, List.setIfInBounds_toArray, List.set_cons_zero, List.set_cons_succ]
        refine wpAnyH_take (i := 4) (v := .int .i64 (k : Int)) rfl (by kernel_rfl) (by kernel_rfl) (by kernel_rfl) (fun _ _ _ h => h) (Or.inl ⟨by rfl, (fun W _ => by go_simp)⟩) ⟨D.out.hm, D.out.hx, D.out.hf⟩ ?_
        simp only [List.getElem_toArray, List.getElem_cons_succ, List.getElem_cons_zero, Act.put, List.setIfInBounds_toArray, List.set_cons_zero, List.set_cons_succ]
        refine wpAnyH_take (i := 0) (v := .agg (sA k).cells) rfl (by kernel_rfl) (by kernel_rfl) (by kernel_rfl) (fun _ _ _ h => h) (yields_ld (by rfl) 27 (.tmp 5) rfl _ _ (fun W hW => ld27 hW.1 D.out.ok) rfl) ⟨D.out.hm, D.out.hx, D.out.hf⟩ ?_
        simp only [List.getElem_toArray, List.getElem_cons_succ, List.getElem_cons_zero, Act.put, List.setIfInBounds_toArray, List.set_cons_zero, List.set_cons_succ]
        refine wpAnyH_take (i := 8) (v := .agg (fOf x).cells) rfl (by kernel_rfl) (by kernel_rfl) (by kernel_rfl) (fun _ _ _ h => h) (yields_ld (by rfl) 32 (.tmp 14) rfl _ _ (fun W hW => (seen_f hW.2.2 OF.out).all) rfl) ⟨D.out.hm, D.out.hx, D.out.hf⟩ ?_
        simp only [List.getElem_toArray, List.getElem_cons_succ, List.getElem_cons_zero, Act.put, List.setIfInBounds_toArray, List.set_cons_zero, List.set_cons_succ]
        refine wpAnyH_ready (rs := [5, 13, 14]) (by kernel_rfl) (by simp) ?_
        refine AllReadyH.cons rfl (fun K hK => ?_) ?_
        · go_simp
          refine (HN.out _).mono ?_
          rintro e wy ⟨rfl, rfl⟩
          refine hK.out _ _ ⟨D.out.hm, D.out.hx, D.out.hf⟩ (fun _ => ?_)
          clear hK K
          refine wpAnyH_ready (rs := [6, 13, 14]) (by kernel_rfl) (by simp) ?_
          refine AllReadyH.cons rfl (fun K hK => ?_) ?_
          · go_simp
            have Z := Lib.hid (D.out.new 5 (zeroBytes n) (wr.heap.size) (by simp))
            replace D := Lib.hid (D.out.more (.cells (zeroBytes n) 5))
            refine hK.out _ _ ⟨D.out.hm, D.out.hx, D.out.hf⟩ (fun _ => ?_)
            clear hK K
            refine wpAnyH_take (i := 7) (v := .agg (Rq.cells ⟨2, (k : Int), some ⟨wr.heap.size, 0, none⟩, n, n, List.replicate n 0⟩)) rfl (by kernel_rfl) (by kernel_rfl) (by kernel_rfl) (fun _ _ _ h => h) (yields_build (by rfl) 30 _ rfl _ (by kernel_rfl)) ⟨D.out.hm, D.out.hx, D.out.hf⟩ ?_
            simp only [List.getElem_toArray, List.getElem_cons_succ, List.getElem_cons_zero, Act.put, List.setIfInBounds_toArray, List.set_cons_zero, List.set_cons_succ]
            refine wpAnyH_ready (rs := [9, 13, 14]) (by kernel_rfl) (by simp) ?_
            refine AllReadyH.cons rfl (fun K hK => ?_) ?_
            · go_simp
              refine (HW.out _ _ Z.out).mono ?_
              rintro e wk ⟨rfl, b1⟩
              replace D := Lib.hid (D.out.kept b1)
              clear b1
              refine hK.out _ _ ⟨D.out.hm, D.out.hx, D.out.hf⟩ (fun _ => ?_)
              clear hK K
              refine wpAnyH_take (i := 10) (v := .tuple #[.agg (sA (k + 1)).cells, .agg (Rp.cells ⟨0, 0, 0⟩)]) rfl (by kernel_rfl) (by kernel_rfl) (by kernel_rfl) (fun _ _ _ h => h) (Or.inl ⟨by rfl, (fun W _ => by go_simp)⟩) ⟨D.out.hm, D.out.hx, D.out.hf⟩ ?_
              simp only [List.getElem_toArray, List.getElem_cons_succ, List.getElem_cons_zero, Act.put, List.setIfInBounds_toArray, List.set_cons_zero, List.set_cons_succ]
              refine wpAnyH_take (i := 11) (v := .agg (sA (k + 1)).cells) rfl (by kernel_rfl) (by kernel_rfl) (by kernel_rfl) (fun _ _ _ h => h) (Or.inl ⟨by rfl, (fun W _ => by go_simp)⟩) ⟨D.out.hm, D.out.hx, D.out.hf⟩ ?_
              simp only [List.getElem_toArray, List.getElem_cons_succ, List.getElem_cons_zero, Act.put, List.setIfInBounds_toArray, List.set_cons_zero, List.set_cons_succ]
              refine wpAnyH_take (i := 12) (v := .agg (Rp.cells ⟨0, 0, 0⟩)) rfl (by kernel_rfl) (by kernel_rfl) (by kernel_rfl) (fun _ _ _ h => h) (Or.inl ⟨by rfl, (fun W _ => by go_simp)⟩) ⟨D.out.hm, D.out.hx, D.out.hf⟩ ?_
              simp only [List.getElem_toArray, List.getElem_cons_succ, List.getElem_cons_zero, Act.put, List.setIfInBounds_toArray, List.set_cons_zero, List.set_cons_succ]
              refine wpAnyH_ready (rs := [13, 14]) (by kernel_rfl) (by simp) ?_
              refine AllReadyH.cons rfl (fun K hK => ?_) ?_
              · go_simp
                have LA := Lib.hid (show r < wk.heap.size from Nat.lt_of_lt_of_eq D.out.hr.size (by simp))
                have RA := Lib.hid (D.out.new 27 zeroT.cells (wk.heap.size) (by simp))
                replace D := Lib.hid (D.out.more (.cells zeroT.cells 27))
                refine hK.out _ _ ⟨D.out.hm, D.out.hx, D.out.hf⟩ (fun _ => ?_)
                clear hK K
                refine wpAnyH_ready (rs := [14]) (by kernel_rfl) (by simp) ?_
                refine AllReadyH.cons rfl (fun K hK => ?_) ?_
                · go_simp
                  have LB := Lib.hid (show r < wk.heap.size + 1 from Nat.lt_of_lt_of_eq D.out.hr.size (by simp))
                  have NE := Lib.hid (Nat.ne_of_lt (show wk.heap.size < wk.heap.size + 1 from Nat.lt_of_lt_of_eq RA.out.size (by simp)))
                  replace RA := Lib.hid (RA.out.more (.cells zeroR.cells 36))
                  have RB := Lib.hid (D.out.new 36 zeroR.cells (wk.heap.size + 1) (by simp))
                  replace D := Lib.hid (D.out.more (.cells zeroR.cells 36))
                  refine hK.out _ _ ⟨D.out.hm, D.out.hx, D.out.hf⟩ (fun _ => ?_)
                  clear hK K
                  refine wpAnyH_ready (rs := [15]) (by kernel_rfl) (by simp) ?_
                  refine AllReadyH.cons rfl (fun K hK => ?_) AllReadyH.nil
                  refine step_row rfl 27 _ _ rfl _ _ rfl rfl 27 _ RA.out (size27 ON.out) (old27 zeroT_ok ON.out) (mt_all _) ?_
                  intro w1 hs on1; replace RA := Lib.hid hs; replace RB := Lib.hid (Has.only RB.out on1 (by have := NE.out; omega)); replace D := Lib.hid (D.out.only on1 LA.out); clear hs on1
                  refine hK.out _ _ ⟨D.out.hm, D.out.hx, D.out.hf⟩ (fun _ => ?_)
                  clear hK K
                  refine wpAnyH_ready (rs := [16]) (by kernel_rfl) (by simp) ?_
                  refine AllReadyH.cons rfl (fun K hK => ?_) AllReadyH.nil
                  refine step_row rfl 36 _ _ rfl _ _ rfl rfl 36 _ RB.out (size36 _) rfl (rp_all _) ?_
                  intro w2 hs on2; replace RB := Lib.hid hs; replace RA := Lib.hid (Has.only RA.out on2 (by have := NE.out; omega)); replace D := Lib.hid (D.out.only on2 LB.out); clear hs on2
                  refine hK.out _ _ ⟨D.out.hm, D.out.hx, D.out.hf⟩ (fun _ => ?_)
                  clear hK K
                  refine wpAnyH_done (by kernel_rfl) ?_ _
                  go_wp2_with fail
                  go_meet
                  exact ⟨_, _, rfl, rfl, ⟨D.out, ON.out, RA.out, RB.out, LA.out⟩⟩
                exact AllReadyH.nil
              refine AllReadyH.cons rfl (fun K hK => ?_) ?_
              · go_simp
                have LB := Lib.hid (show r < wk.heap.size from Nat.lt_of_lt_of_eq D.out.hr.size (by simp))
                have RB := Lib.hid (D.out.new 36 zeroR.cells (wk.heap.size) (by simp))
                replace D := Lib.hid (D.out.more (.cells zeroR.cells 36))
                refine hK.out _ _ ⟨D.out.hm, D.out.hx, D.out.hf⟩ (fun _ => ?_)
                clear hK K
                refine wpAnyH_ready (rs := [13]) (by kernel_rfl) (by simp) ?_
                refine AllReadyH.cons rfl (fun K hK => ?_) ?_
                · go_simp
                  have LA := Lib.hid (show r < wk.heap.size + 1 from Nat.lt_of_lt_of_eq D.out.hr.size (by simp))
                  have NE := Lib.hid (Nat.ne_of_lt (show wk.heap.size < wk.heap.size + 1 from Nat.lt_of_lt_of_eq RB.out.size (by simp)))
                  replace RB := Lib.hid (RB.out.more (.cells zeroT.cells 27))
                  have RA := Lib.hid (D.out.new 27 zeroT.cells (wk.heap.size + 1) (by simp))
                  replace D := Lib.hid (D.out.more (.cells zeroT.cells 27))
                  refine hK.out _ _ ⟨D.out.hm, D.out.hx, D.out.hf⟩ (fun _ => ?_)
                  clear hK K
                  refine wpAnyH_ready (rs := [15]) (by kernel_rfl) (by simp) ?_
                  refine AllReadyH.cons rfl (fun K hK => ?_) AllReadyH.nil
                  refine step_row rfl 27 _ _ rfl _ _ rfl rfl 27 _ RA.out (size27 ON.out) (old27 zeroT_ok ON.out) (mt_all _) ?_
                  intro w1 hs on1; replace RA := Lib.hid hs; replace RB := Lib.hid (Has.only RB.out on1 (by have := NE.out; omega)); replace D := Lib.hid (D.out.only on1 LA.out); clear hs on1
                  refine hK.out _ _ ⟨D.out.hm, D.out.hx, D.out.hf⟩ (fun _ => ?_)
                  clear hK K
                  refine wpAnyH_ready (rs := [16]) (by kernel_rfl) (by simp) ?_
                  refine AllReadyH.cons rfl (fun K hK => ?_) AllReadyH.nil
                  refine step_row rfl 36 _ _ rfl _ _ rfl rfl 36 _ RB.out (size36 _) rfl (rp_all _) ?_
                  intro w2 hs on2; replace RB := Lib.hid hs; replace RA := Lib.hid (Has.only RA.out on2 (by have := NE.out; omega)); replace D := Lib.hid (D.out.only on2 LB.out); clear hs on2
                  refine hK.out _ _ ⟨D.out.hm, D.out.hx, D.out.hf⟩ (fun _ => ?_)
                  clear hK K
                  refine wpAnyH_done (by kernel_rfl) ?_ _
                  go_wp2_with fail
                  go_meet
                  exact ⟨_, _, rfl, rfl, ⟨D.out, ON.out, RA.out, RB.out, LA.out⟩⟩
                exact AllReadyH.nil
              exact AllReadyH.nil
            refine AllReadyH.cons rfl (fun K hK => ?_) ?_
            · go_simp
              have LA := Lib.hid (show r < wr.heap.size + 1 from Nat.lt_of_lt_of_eq D.out.hr.size (by simp))
              have RA := Lib.hid (D.out.new 27 zeroT.cells (wr.heap.size + 1) (by simp))
              replace Z := Lib.hid (Z.out.more (.cells zeroT.cells 27))
              replace D := Lib.hid (D.out.more (.cells zeroT.cells 27))
              refine hK.out _ _ ⟨D.out.hm, D.out.hx, D.out.hf⟩ (fun _ => ?_)
              clear hK K
              refine wpAnyH_ready (rs := [9, 14]) (by kernel_rfl) (by simp) ?_
              refine AllReadyH.cons rfl (fun K hK => ?_) ?_
              · go_simp
                refine (HW.out _ _ Z.out).mono ?_
                rintro e wk ⟨rfl, b1⟩
                replace D := Lib.hid (D.out.kept b1)
                replace RA := Lib.hid (RA.out.kept b1)
                clear b1
                refine hK.out _ _ ⟨D.out.hm, D.out.hx, D.out.hf⟩ (fun _ => ?_)
                clear hK K
                refine wpAnyH_take (i := 10) (v := .tuple #[.agg (sA (k + 1)).cells, .agg (Rp.cells ⟨0, 0, 0⟩)]) rfl (by kernel_rfl) (by kernel_rfl) (by kernel_rfl) (fun _ _ _ h => h) (Or.inl ⟨by rfl, (fun W _ => by go_simp)⟩) ⟨D.out.hm, D.out.hx, D.out.hf⟩ ?_
                simp only [List.getElem_toArray, List.getElem_cons_succ, List.getElem_cons_zero, Act.put, List.setIfInBounds_toArray, List.set_cons_zero, List.set_cons_succ]
                refine wpAnyH_take (i := 11) (v := .agg (sA (k + 1)).cells) rfl (by kernel_rfl) (by kernel_rfl) (by kernel_rfl) (fun _ _ _ h => h) (Or.inl ⟨by rfl, (fun W _ => by go_simp)⟩) ⟨D.out.hm, D.out.hx, D.out.hf⟩ ?_
                simp only [List.getElem_toArray, List.getElem_cons_succ, List.getElem_cons_zero, Act.put, List.setIfInBounds_toArray, List.set_cons_zero, List.set_cons_succ]
                refine wpAnyH_take (i := 12) (v := .agg (Rp.cells ⟨0, 0, 0⟩)) rfl (by kernel_rfl) (by kernel_rfl) (by kernel_rfl) (fun _ _ _ h => h) (Or.inl ⟨by rfl, (fun W _ => by go_simp)⟩) ⟨D.out.hm, D.out.hx, D.out.hf⟩ ?_
                simp only [List.getElem_toArray, List.getElem_cons_succ, List.getElem_cons_zero, Act.put, List.setIfInBounds_toArray, List.set_cons_zero, List.set_cons_succ]
                refine wpAnyH_ready (rs := [14]) (by kernel_rfl) (by simp) ?_
                refine AllReadyH.cons rfl (fun K hK => ?_) ?_
                · go_simp
                  have LB := Lib.hid (show r < wk.heap.size from Nat.lt_of_lt_of_eq D.out.hr.size (by simp))
                  have NE := Lib.hid (Nat.ne_of_lt (show wr.heap.size + 1 < wk.heap.size from Nat.lt_of_lt_of_eq RA.out.size (by simp)))
                  replace RA := Lib.hid (RA.out.more (.cells zeroR.cells 36))
                  have RB := Lib.hid (D.out.new 36 zeroR.cells (wk.heap.size) (by simp))
                  replace D := Lib.hid (D.out.more (.cells zeroR.cells 36))
                  refine hK.out _ _ ⟨D.out.hm, D.out.hx, D.out.hf⟩ (fun _ => ?_)
                  clear hK K
                  refine wpAnyH_ready (rs := [15]) (by kernel_rfl) (by simp) ?_
                  refine AllReadyH.cons rfl (fun K hK => ?_) AllReadyH.nil
                  refine step_row rfl 27 _ _ rfl _ _ rfl rfl 27 _ RA.out (size27 ON.out) (old27 zeroT_ok ON.out) (mt_all _) ?_
                  intro w1 hs on1; replace RA := Lib.hid hs; replace RB := Lib.hid (Has.only RB.out on1 (by have := NE.out; omega)); replace D := Lib.hid (D.out.only on1 LA.out); clear hs on1
                  refine hK.out _ _ ⟨D.out.hm, D.out.hx, D.out.hf⟩ (fun _ => ?_)
                  clear hK K
                  refine wpAnyH_ready (rs := [16]) (by kernel_rfl) (by simp) ?_
                  refine AllReadyH.cons rfl (fun K hK => ?_) AllReadyH.nil
                  refine step_row rfl 36 _ _ rfl _ _ rfl rfl 36 _ RB.out (size36 _) rfl (rp_all _) ?_
                  intro w2 hs on2; replace RB := Lib.hid hs; replace RA := Lib.hid (Has.only RA.out on2 (by have := NE.out; omega)); replace D := Lib.hid (D.out.only on2 LB.out); clear hs on2
                  refine hK.out _ _ ⟨D.out.hm, D.out.hx, D.out.hf⟩ (fun _ => ?_)
                  clear hK K
                  refine wpAnyH_done (by kernel_rfl) ?_ _
                  go_wp2_with fail
                  go_meet
                  exact ⟨_, _, rfl, rfl, ⟨D.out, ON.out, RA.out, RB.out, LA.out⟩⟩
                exact AllReadyH.nil
              refine AllReadyH.cons rfl (fun K hK => ?_) ?_
              · go_simp
                have LB := Lib.hid (show r < wr.heap.size + 1 + 1 from Nat.lt_of_lt_of_eq D.out.hr.size (by simp))
                have NE := Lib.hid (Nat.ne_of_lt (show wr.heap.size + 1 < wr.heap.size + 1 + 1 from Nat.lt_of_lt_of_eq RA.out.size (by simp)))
                replace RA := Lib.hid (RA.out.more (.cells zeroR.cells 36))
                have RB := Lib.hid (D.out.new 36 zeroR.cells (wr.heap.size + 1 + 1) (by simp))
                replace Z := Lib.hid (Z.out.more (.cells zeroR.cells 36))
                replace D := Lib.hid (D.out.more (.cells zeroR.cells 36))
                refine hK.out _ _ ⟨D.out.hm, D.out.hx, D.out.hf⟩ (fun _ => ?_)
                clear hK K
                refine wpAnyH_ready (rs := [9]) (by kernel_rfl) (by simp) ?_
                refine AllReadyH.cons rfl (fun K hK => ?_) ?_
                · go_simp
                  refine (HW.out _ _ Z.out).mono ?_
                  rintro e wk ⟨rfl, b1⟩
                  replace D := Lib.hid (D.out.kept b1)
                  replace RA := Lib.hid (RA.out.kept b1)
                  replace RB := Lib.hid (RB.out.kept b1)
                  clear b1
                  refine hK.out _ _ ⟨D.out.hm, D.out.hx, D.out.hf⟩ (fun _ => ?_)
                  clear hK K
                  refine wpAnyH_take (i := 10) (v := .tuple #[.agg (sA (k + 1)).cells, .agg (Rp.cells ⟨0, 0, 0⟩)]) rfl (by kernel_rfl) (by kernel_rfl) (by kernel_rfl) (fun _ _ _ h => h) (Or.inl ⟨by rfl, (fun W _ => by go_simp)⟩) ⟨D.out.hm, D.out.hx, D.out.hf⟩ ?_
                  simp only [List.getElem_toArray, List.getElem_cons_succ, List.getElem_cons_zero, Act.put, List.setIfInBounds_toArray, List.set_cons_zero, List.set_cons_succ]
                  refine wpAnyH_take (i := 11) (v := .agg (sA (k + 1)).cells) rfl (by kernel_rfl) (by kernel_rfl) (by kernel_rfl) (fun _ _ _ h => h) (Or.inl ⟨by rfl, (fun W _ => by go_simp)⟩) ⟨D.out.hm, D.out.hx, D.out.hf⟩ ?_
                  simp only [List.getElem_toArray, List.getElem_cons_succ, List.getElem_cons_zero, Act.put, List.setIfInBounds_toArray, List.set_cons_zero, List.set_cons_succ]
                  refine wpAnyH_take (i := 12) (v := .agg (Rp.cells ⟨0, 0, 0⟩)) rfl (by kernel_rfl) (by kernel_rfl) (by kernel_rfl) (fun _ _ _ h => h) (Or.inl ⟨by rfl, (fun W _ => by go_simp)⟩) ⟨D.out.hm, D.out.hx, D.out.hf⟩ ?_
                  simp only [List.getElem_toArray, List.getElem_cons_succ, List.getElem_cons_zero, Act.put, List.setIfInBounds_toArray, List.set_cons_zero, List.set_cons_succ]
                  refine wpAnyH_ready (rs := [15]) (by kernel_rfl) (by simp) ?_
                  refine AllReadyH.cons rfl (fun K hK => ?_) AllReadyH.nil
                  refine step_row rfl 27 _ _ rfl _ _ rfl rfl 27 _ RA.out (size27 ON.out) (old27 zeroT_ok ON.out) (mt_all _) ?_
                  intro w1 hs on1; replace RA := Lib.hid hs; replace RB := Lib.hid (Has.only RB.out on1 (by have := NE.out; omega)); replace D := Lib.hid (D.out.only on1 LA.out); clear hs on1
                  refine hK.out _ _ ⟨D.out.hm, D.out.hx, D.out.hf⟩ (fun _ => ?_)
                  clear hK K
                  refine wpAnyH_ready (rs := [16]) (by kernel_rfl) (by simp) ?_
                  refine AllReadyH.cons rfl (fun K hK => ?_) AllReadyH.nil
                  refine step_row rfl 36 _ _ rfl _ _ rfl rfl 36 _ RB.out (size36 _) rfl (rp_all _) ?_
                  intro w2 hs on2; replace RB := Lib.hid hs; replace RA := Lib.hid (Has.only RA.out on2 (by have := NE.out; omega)); replace D := Lib.hid (D.out.only on2 LB.out); clear hs on2
                  refine hK.out _ _ ⟨D.out.hm, D.out.hx, D.out.hf⟩ (fun _ => ?_)
                  clear hK K
                  refine wpAnyH_done (by kernel_rfl) ?_ _
                  go_wp2_with fail
                  go_meet
                  exact ⟨_, _, rfl, rfl, ⟨D.out, ON.out, RA.out, RB.out, LA.out⟩⟩
                exact AllReadyH.nil
              exact AllReadyH.nil
            refine AllReadyH.cons rfl (fun K hK => ?_) ?_
            · go_simp
              have LB := Lib.hid (show r < wr.heap.size + 1 from Nat.lt_of_lt_of_eq D.out.hr.size (by simp))
              have RB := Lib.hid (D.out.new 36 zeroR.cells (wr.heap.size + 1) (by simp))
              replace Z := Lib.hid (Z.out.more (.cells zeroR.cells 36))
              replace D := Lib.hid (D.out.more (.cells zeroR.cells 36))
              refine hK.out _ _ ⟨D.out.hm, D.out.hx, D.out.hf⟩ (fun _ => ?_)
              clear hK K
              refine wpAnyH_ready (rs := [9, 13]) (by kernel_rfl) (by simp) ?_
              refine AllReadyH.cons rfl (fun K hK => ?_) ?_
              · go_simp
                refine (HW.out _ _ Z.out).mono ?_
                rintro e wk ⟨rfl, b1⟩
                replace D := Lib.hid (D.out.kept b1)
                replace RB := Lib.hid (RB.out.kept b1)
                clear b1
                refine hK.out _ _ ⟨D.out.hm, D.out.hx, D.out.hf⟩ (fun _ => ?_)
                clear hK K
                refine wpAnyH_take (i := 10) (v := .tuple #[.agg (sA (k + 1)).cells, .agg (Rp.cells ⟨0, 0, 0⟩)]) rfl (by kernel_rfl) (by kernel_rfl) (by kernel_rfl) (fun _ _ _ h => h) (Or.inl ⟨by rfl, (fun W _ => by go_simp)⟩) ⟨D.out.hm, D.out.hx, D.out.hf⟩ ?_
                simp only [List.getElem_toArray, List.getElem_cons_succ, List.getElem_cons_zero, Act.put, List.setIfInBounds_toArray, List.set_cons_zero, List.set_cons_succ]
                refine wpAnyH_take (i := 11) (v := .agg (sA (k + 1)).cells) rfl (by kernel_rfl) (by kernel_rfl) (by kernel_rfl) (fun _ _ _ h => h) (Or.inl ⟨by rfl, (fun W _ => by go_simp)⟩) ⟨D.out.hm, D.out.hx, D.out.hf⟩ ?_
                simp only [List.getElem_toArray, List.getElem_cons_succ, List.getElem_cons_zero, Act.put, List.setIfInBounds_toArray, List.set_cons_zero, List.set_cons_succ]
                refine wpAnyH_take (i := 12) (v := .agg (Rp.cells ⟨0, 0, 0⟩)) rfl (by kernel_rfl) (by kernel_rfl) (by kernel_rfl) (fun _ _ _ h => h) (Or.inl ⟨by rfl, (fun W _ => by go_simp)⟩) ⟨D.out.hm, D.out.hx, D.out.hf⟩ ?_
                simp only [List.getElem_toArray, List.getElem_cons_succ, List.getElem_cons_zero, Act.put, List.setIfInBounds_toArray, List.set_cons_zero, List.set_cons_succ]
                refine wpAnyH_ready (rs := [13]) (by kernel_rfl) (by simp) ?_
                refine AllReadyH.cons rfl (fun K hK => ?_) ?_
                · go_simp
                  have LA := Lib.hid (show r < wk.heap.size from Nat.lt_of_lt_of_eq D.out.hr.size (by simp))
                  have NE := Lib.hid (Nat.ne_of_lt (show wr.heap.size + 1 < wk.heap.size from Nat.lt_of_lt_of_eq RB.out.size (by simp)))
                  replace RB := Lib.hid (RB.out.more (.cells zeroT.cells 27))
                  have RA := Lib.hid (D.out.new 27 zeroT.cells (wk.heap.size) (by simp))
                  replace D := Lib.hid (D.out.more (.cells zeroT.cells 27))
                  refine hK.out _ _ ⟨D.out.hm, D.out.hx, D.out.hf⟩ (fun _ => ?_)
                  clear hK K
                  refine wpAnyH_ready (rs := [15]) (by kernel_rfl) (by simp) ?_
                  refine AllReadyH.cons rfl (fun K hK => ?_) AllReadyH.nil
                  refine step_row rfl 27 _ _ rfl _ _ rfl rfl 27 _ RA.out (size27 ON.out) (old27 zeroT_ok ON.out) (mt_all _) ?_
                  intro w1 hs on1; replace RA := Lib.hid hs; replace RB := Lib.hid (Has.only RB.out on1 (by have := NE.out; omega)); replace D := Lib.hid (D.out.only on1 LA.out); clear hs on1
                  refine hK.out _ _ ⟨D.out.hm, D.out.hx, D.out.hf⟩ (fun _ => ?_)
                  clear hK K
                  refine wpAnyH_ready (rs := [16]) (by kernel_rfl) (by simp) ?_
                  refine AllReadyH.cons rfl (fun K hK => ?_) AllReadyH.nil
                  refine step_row rfl 36 _ _ rfl _ _ rfl rfl 36 _ RB.out (size36 _) rfl (rp_all _) ?_
                  intro w2 hs on2; replace RB := Lib.hid hs; replace RA := Lib.hid (Has.only RA.out on2 (by have := NE.out; omega)); replace D := Lib.hid (D.out.only on2 LB.out); clear hs on2
                  refine hK.out _ _ ⟨D.out.hm, D.out.hx, D.out.hf⟩ (fun _ => ?_)
                  clear hK K
                  refine wpAnyH_done (by kernel_rfl) ?_ _
                  go_wp2_with fail
                  go_meet
                  exact ⟨_, _, rfl, rfl, ⟨D.out, ON.out, RA.out, RB.out, LA.out⟩⟩
                exact AllReadyH.nil
              refine AllReadyH.cons rfl (fun K hK => ?_) ?_
              · go_simp
                have LA := Lib.hid (show r < wr.heap.size + 1 + 1 from Nat.lt_of_lt_of_eq D.out.hr.size (by simp))
                have NE := Lib.hid (Nat.ne_of_lt (show wr.heap.size + 1 < wr.heap.size + 1 + 1 from Nat.lt_of_lt_of_eq RB.out.size (by simp)))
                replace RB := Lib.hid (RB.out.more (.cells zeroT.cells 27))
                have RA := Lib.hid (D.out.new 27 zeroT.cells (wr.heap.size + 1 + 1) (by simp))
                replace Z := Lib.hid (Z.out.more (.cells zeroT.cells 27))
                replace D := Lib.hid (D.out.more (.cells zeroT.cells 27))
                refine hK.out _ _ ⟨D.out.hm, D.out.hx, D.out.hf⟩ (fun _ => ?_)
                clear hK K
                refine wpAnyH_ready (rs := [9]) (by kernel_rfl) (by simp) ?_
                refine AllReadyH.cons rfl (fun K hK => ?_) ?_
                · go_simp
                  refine (HW.out _ _ Z.out).mono ?_
                  rintro e wk ⟨rfl, b1⟩
                  replace D := Lib.hid (D.out.kept b1)
                  replace RA := Lib.hid (RA.out.kept b1)
                  replace RB := Lib.hid (RB.out.kept b1)
                  clear b1
                  refine hK.out _ _ ⟨D.out.hm, D.out.hx, D.out.hf⟩ (fun _ => ?_)
                  clear hK K
                  refine wpAnyH_take (i := 10) (v := .tuple #[.agg (sA (k + 1)).cells, .agg (Rp.cells ⟨0, 0, 0⟩)]) rfl (by kernel_rfl) (by kernel_rfl) (by kernel_rfl) (fun _ _ _ h => h) (Or.inl ⟨by rfl, (fun W _ => by go_simp)⟩) ⟨D.out.hm, D.out.hx, D.out.hf⟩ ?_
                  simp only [List.getElem_toArray, List.getElem_cons_succ, List.getElem_cons_zero, Act.put, List.setIfInBounds_toArray, List.set_cons_zero, List.set_cons_succ]
                  refine wpAnyH_take (i := 11) (v := .agg (sA (k + 1)).cells) rfl (by kernel_rfl) (by kernel_rfl) (by kernel_rfl) (fun _ _ _ h => h) (Or.inl ⟨by rfl, (fun W _ => by go_simp)⟩) ⟨D.out.hm, D.out.hx, D.out.hf⟩ ?_
                  simp only [List.getElem_toArray, List.getElem_cons_succ, List.getElem_cons_zero, Act.put, List.setIfInBounds_toArray, List.set_cons_zero, List.set_cons_succ]
                  refine wpAnyH_take (i := 12) (v := .agg (Rp.cells ⟨0, 0, 0⟩)) rfl (by kernel_rfl) (by kernel_rfl) (by kernel_rfl) (fun _ _ _ h => h) (Or.inl ⟨by rfl, (fun W _ => by go_simp)⟩) ⟨D.out.hm, D.out.hx, D.out.hf⟩ ?_
                  simp only [List.getElem_toArray, List.getElem_cons_succ, List.getElem_cons_zero, Act.put, List.setIfInBounds_toArray, List.set_cons_zero, List.set_cons_succ]
                  refine wpAnyH_ready (rs := [15]) (by kernel_rfl) (by simp) ?_
                  refine AllReadyH.cons rfl (fun K hK => ?_) AllReadyH.nil
                  refine step_row rfl 27 _ _ rfl _ _ rfl rfl 27 _ RA.out (size27 ON.out) (old27 zeroT_ok ON.out) (mt_all _) ?_
                  intro w1 hs on1; replace RA := Lib.hid hs; replace RB := Lib.hid (Has.only RB.out on1 (by have := NE.out; omega)); replace D := Lib.hid (D.out.only on1 LA.out); clear hs on1
                  refine hK.out _ _ ⟨D.out.hm, D.out.hx, D.out.hf⟩ (fun _ => ?_)
                  clear hK K
                  refine wpAnyH_ready (rs := [16]) (by kernel_rfl) (by simp) ?_
                  refine AllReadyH.cons rfl (fun K hK => ?_) AllReadyH.nil
                  refine step_row rfl 36 _ _ rfl _ _ rfl rfl 36 _ RB.out (size36 _) rfl (rp_all _) ?_
                  intro w2 hs on2; replace RB := Lib.hid hs; replace RA := Lib.hid (Has.only RA.out on2 (by have := NE.out; omega)); replace D := Lib.hid (D.out.only on2 LB.out); clear hs on2
                  refine hK.out _ _ ⟨D.out.hm, D.out.hx, D.out.hf⟩ (fun _ => ?_)
                  clear hK K
                  refine wpAnyH_done (by kernel_rfl) ?_ _
                  go_wp2_with fail
                  go_meet
                  exact ⟨_, _, rfl, rfl, ⟨D.out, ON.out, RA.out, RB.out, LA.out⟩⟩
                exact AllReadyH.nil
              exact AllReadyH.nil
            exact AllReadyH.nil
          refine AllReadyH.cons rfl (fun K hK => ?_) ?_
          · go_simp
            have LA := Lib.hid (show r < wr.heap.size from Nat.lt_of_lt_of_eq D.out.hr.size (by simp))
            have RA := Lib.hid (D.out.new 27 zeroT.cells (wr.heap.size) (by simp))
            replace D := Lib.hid (D.out.more (.cells zeroT.cells 27))
            refine hK.out _ _ ⟨D.out.hm, D.out.hx, D.out.hf⟩ (fun _ => ?_)
            clear hK K
            refine wpAnyH_ready (rs := [6, 14]) (by kernel_rfl) (by simp) ?_
            refine AllReadyH.cons rfl (fun K hK => ?_) ?_
            · go_simp
              have Z := Lib.hid (D.out.new 5 (zeroBytes n) (wr.heap.size + 1) (by simp))
              replace RA := Lib.hid (RA.out.more (.cells (zeroBytes n) 5))
              replace D := Lib.hid (D.out.more (.cells (zeroBytes n) 5))
              refine hK.out _ _ ⟨D.out.hm, D.out.hx, D.out.hf⟩ (fun _ => ?_)
              clear hK K
              refine wpAnyH_take (i := 7) (v := .agg (Rq.cells ⟨2, (k : Int), some ⟨wr.heap.size + 1, 0, none⟩, n, n, List.replicate n 0⟩)) rfl (by kernel_rfl) (by kernel_rfl) (by kernel_rfl) (fun _ _ _ h => h) (yields_build (by rfl) 30 _ rfl _ (by kernel_rfl)) ⟨D.out.hm, D.out.hx, D.out.hf⟩ ?_
              simp only [List.getElem_toArray, List.getElem_cons_succ, List.getElem_cons_zero, Act.put, List.setIfInBounds_toArray, List.set_cons_zero, List.set_cons_succ]
              refine wpAnyH_ready (rs := [9, 14]) (by kernel_rfl) (by simp) ?_
              refine AllReadyH.cons rfl (fun K hK => ?_) ?_
              · go_simp
                refine (HW.out _ _ Z.out).mono ?_
                rintro e wk ⟨rfl, b1⟩
                replace D := Lib.hid (D.out.kept b1)
                replace RA := Lib.hid (RA.out.kept b1)
                clear b1
                refine hK.out _ _ ⟨D.out.hm, D.out.hx, D.out.hf⟩ (fun _ => ?_)
                clear hK K
                refine wpAnyH_take (i := 10) (v := .tuple #[.agg (sA (k + 1)).cells, .agg (Rp.cells ⟨0, 0, 0⟩)]) rfl (by kernel_rfl) (by kernel_rfl) (by kernel_rfl) (fun _ _ _ h => h) (Or.inl ⟨by rfl, (fun W _ => by go_simp)⟩) ⟨D.out.hm, D.out.hx, D.out.hf⟩ ?_
                simp only [List.getElem_toArray, List.getElem_cons_succ, List.getElem_cons_zero, Act.put, List.setIfInBounds_toArray, List.set_cons_zero, List.set_cons_succ]
                refine wpAnyH_take (i := 11) (v := .agg (sA (k + 1)).cells) rfl (by kernel_rfl) (by kernel_rfl) (by kernel_rfl) (fun _ _ _ h => h) (Or.inl ⟨by rfl, (fun W _ => by go_simp)⟩) ⟨D.out.hm, D.out.hx, D.out.hf⟩ ?_
                simp only [List.getElem_toArray, List.getElem_cons_succ, List.getElem_cons_zero, Act.put, List.setIfInBounds_toArray, List.set_cons_zero, List.set_cons_succ]
                refine wpAnyH_take (i := 12) (v := .agg (Rp.cells ⟨0, 0, 0⟩)) rfl (by kernel_rfl) (by kernel_rfl) (by kernel_rfl) (fun _ _ _ h => h) (Or.inl ⟨by rfl, (fun W _ => by go_simp)⟩) ⟨D.out.hm, D.out.hx, D.out.hf⟩ ?_
                simp only [List.getElem_toArray, List.getElem_cons_succ, List.getElem_cons_zero, Act.put, List.setIfInBounds_toArray, List.set_cons_zero, List.set_cons_succ]
                refine wpAnyH_ready (rs := [14]) (by kernel_rfl) (by simp) ?_
                refine AllReadyH.cons rfl (fun K hK => ?_) ?_
                · go_simp
                  have LB := Lib.hid (show r < wk.heap.size from Nat.lt_of_lt_of_eq D.out.hr.size (by simp))
                  have NE := Lib.hid (Nat.ne_of_lt (show wr.heap.size < wk.heap.size from Nat.lt_of_lt_of_eq RA.out.size (by simp)))
                  replace RA := Lib.hid (RA.out.more (.cells zeroR.cells 36))
                  have RB := Lib.hid (D.out.new 36 zeroR.cells (wk.heap.size) (by simp))
                  replace D := Lib.hid (D.out.more (.cells zeroR.cells 36))
                  refine hK.out _ _ ⟨D.out.hm, D.out.hx, D.out.hf⟩ (fun _ => ?_)
                  clear hK K
                  refine wpAnyH_ready (rs := [15]) (by kernel_rfl) (by simp) ?_
                  refine AllReadyH.cons rfl (fun K hK => ?_) AllReadyH.nil
                  refine step_row rfl 27 _ _ rfl _ _ rfl rfl 27 _ RA.out (size27 ON.out) (old27 zeroT_ok ON.out) (mt_all _) ?_
                  intro w1 hs on1; replace RA := Lib.hid hs; replace RB := Lib.hid (Has.only RB.out on1 (by have := NE.out; omega)); replace D := Lib.hid (D.out.only on1 LA.out); clear hs on1
                  refine hK.out _ _ ⟨D.out.hm, D.out.hx, D.out.hf⟩ (fun _ => ?_)
                  clear hK K
                  refine wpAnyH_ready (rs := [16]) (by kernel_rfl) (by simp) ?_
                  refine AllReadyH.cons rfl (fun K hK => ?_) AllReadyH.nil
                  refine step_row rfl 36 _ _ rfl _ _ rfl rfl 36 _ RB.out (size36 _) rfl (rp_all _) ?_
                  intro w2 hs on2; replace RB := Lib.hid hs; replace RA := Lib.hid (Has.only RA.out on2 (by have := NE.out; omega)); replace D := Lib.hid (D.out.only on2 LB.out); clear hs on2
                  refine hK.out _ _ ⟨D.out.hm, D.out.hx, D.out.hf⟩ (fun _ => ?_)
                  clear hK K
                  refine wpAnyH_done (by kernel_rfl) ?_ _
                  go_wp2_with fail
                  go_meet
                  exact ⟨_, _, rfl, rfl, ⟨D.out, ON.out, RA.out, RB.out, LA.out⟩⟩
                exact AllReadyH.nil
              refine AllReadyH.cons rfl (fun K hK => ?_) ?_
              · go_simp
                have LB := Lib.hid (show r < wr.heap.size + 1 + 1 from Nat.lt_of_lt_of_eq D.out.hr.size (by simp))
                have NE := Lib.hid (Nat.ne_of_lt (show wr.heap.size < wr.heap.size + 1 + 1 from Nat.lt_of_lt_of_eq RA.out.size (by simp)))
                replace RA := Lib.hid (RA.out.more (.cells zeroR.cells 36))
                have RB := Lib.hid (D.out.new 36 zeroR.cells (wr.heap.size + 1 + 1) (by simp))
                replace Z := Lib.hid (Z.out.more (.cells zeroR.cells 36))
                replace D := Lib.hid (D.out.more (.cells zeroR.cells 36))
                refine hK.out _ _ ⟨D.out.hm, D.out.hx, D.out.hf⟩ (fun _ => ?_)
                clear hK K
                refine wpAnyH_ready (rs := [9]) (by kernel_rfl) (by simp) ?_
                refine AllReadyH.cons rfl (fun K hK => ?_) ?_
                · go_simp
                  refine (HW.out _ _ Z.out).mono ?_
                  rintro e wk ⟨rfl, b1⟩
                  replace D := Lib.hid (D.out.kept b1)
                  replace RA := Lib.hid (RA.out.kept b1)
                  replace RB := Lib.hid (RB.out.kept b1)
                  clear b1
                  refine hK.out _ _ ⟨D.out.hm, D.out.hx, D.out.hf⟩ (fun _ => ?_)
                  clear hK K
                  refine wpAnyH_take (i := 10) (v := .tuple #[.agg (sA (k + 1)).cells, .agg (Rp.cells ⟨0, 0, 0⟩)]) rfl (by kernel_rfl) (by kernel_rfl) (by kernel_rfl) (fun _ _ _ h => h) (Or.inl ⟨by rfl, (fun W _ => by go_simp)⟩) ⟨D.out.hm, D.out.hx, D.out.hf⟩ ?_
                  simp only [List.getElem_toArray, List.getElem_cons_succ, List.getElem_cons_zero, Act.put, List.setIfInBounds_toArray, List.set_cons_zero, List.set_cons_succ]
                  refine wpAnyH_take (i := 11) (v := .agg (sA (k + 1)).cells) rfl (by kernel_rfl) (by kernel_rfl) (by kernel_rfl) (fun _ _ _ h => h) (Or.inl ⟨by rfl, (fun W _ => by go_simp)⟩) ⟨D.out.hm, D.out.hx, D.out.hf⟩ ?_
                  simp only [List.getElem_toArray, List.getElem_cons_succ, List.getElem_cons_zero, Act.put, List.setIfInBounds_toArray, List.set_cons_zero, List.set_cons_succ]
                  refine wpAnyH_take (i := 12) (v := .agg (Rp.cells ⟨0, 0, 0⟩)) rfl (by kernel_rfl) (by kernel_rfl) (by kernel_rfl) (fun _ _ _ h => h) (Or.inl ⟨by rfl, (fun W _ => by go_simp)⟩) ⟨D.out.hm, D.out.hx, D.out.hf⟩ ?_
                  simp only [List.getElem_toArray, List.getElem_cons_succ, List.getElem_cons_zero, Act.put, List.setIfInBounds_toArray, List.set_cons_zero, List.set_cons_succ]
                  refine wpAnyH_ready (rs := [15]) (by kernel_rfl) (by simp) ?_
                  refine AllReadyH.cons rfl (fun K hK => ?_) AllReadyH.nil
                  refine step_row rfl 27 _ _ rfl _ _ rfl rfl 27 _ RA.out (size27 ON.out) (old27 zeroT_ok ON.out) (mt_all _) ?_
                  intro w1 hs on1; replace RA := Lib.hid hs; replace RB := Lib.hid (Has.only RB.out on1 (by have := NE.out; omega)); replace D := Lib.hid (D.out.only on1 LA.out); clear hs on1
                  refine hK.out _ _ ⟨D.out.hm, D.out.hx, D.out.hf⟩ (fun _ => ?_)
                  clear hK K
                  refine wpAnyH_ready (rs := [16]) (by kernel_rfl) (by simp) ?_
                  refine AllReadyH.cons rfl (fun K hK => ?_) AllReadyH.nil
                  refine step_row rfl 36 _ _ rfl _ _ rfl rfl 36 _ RB.out (size36 _) rfl (rp_all _) ?_
                  intro w2 hs on2; replace RB := Lib.hid hs; replace RA := Lib.hid (Has.only RA.out on2 (by have := NE.out; omega)); replace D := Lib.hid (D.out.only on2 LB.out); clear hs on2
                  refine hK.out _ _ ⟨D.out.hm, D.out.hx, D.out.hf⟩ (fun _ => ?_)
                  clear hK K
                  refine wpAnyH_done (by kernel_rfl) ?_ _
                  go_wp2_with fail
                  go_meet
                  exact ⟨_, _, rfl, rfl, ⟨D.out, ON.out, RA.out, RB.out, LA.out⟩⟩
                exact AllReadyH.nil
              exact AllReadyH.nil
            refine AllReadyH.cons rfl (fun K hK => ?_) ?_
            · go_simp
              have LB := Lib.hid (show r < wr.heap.size + 1 from Nat.lt_of_lt_of_eq D.out.hr.size (by simp))
              have NE := Lib.hid (Nat.ne_of_lt (show wr.heap.size < wr.heap.size + 1 from Nat.lt_of_lt_of_eq RA.out.size (by simp)))
              replace RA := Lib.hid (RA.out.more (.cells zeroR.cells 36))
              have RB := Lib.hid (D.out.new 36 zeroR.cells (wr.heap.size + 1) (by simp))
              replace D := Lib.hid (D.out.more (.cells zeroR.cells 36))
              refine hK.out _ _ ⟨D.out.hm, D.out.hx, D.out.hf⟩ (fun _ => ?_)
              clear hK K
              refine wpAnyH_ready (rs := [6]) (by kernel_rfl) (by simp) ?_
              refine AllReadyH.cons rfl (fun K hK => ?_) ?_
              · go_simp
                have Z := Lib.hid (D.out.new 5 (zeroBytes n) (wr.heap.size + 1 + 1) (by simp))
                replace RA := Lib.hid (RA.out.more (.cells (zeroBytes n) 5))
                replace RB := Lib.hid (RB.out.more (.cells (zeroBytes n) 5))
                replace D := Lib.hid (D.out.more (.cells (zeroBytes n) 5))
                refine hK.out _ _ ⟨D.out.hm, D.out.hx, D.out.hf⟩ (fun _ => ?_)
                clear hK K
                refine wpAnyH_take (i := 7) (v := .agg (Rq.cells ⟨2, (k : Int), some ⟨wr.heap.size + 1 + 1, 0, none⟩, n, n, List.replicate n 0⟩)) rfl (by kernel_rfl) (by kernel_rfl) (by kernel_rfl) (fun _ _ _ h => h) (yields_build (by rfl) 30 _ rfl _ (by kernel_rfl)) ⟨D.out.hm, D.out.hx, D.out.hf⟩ ?_
                simp only [List.getElem_toArray, List.getElem_cons_succ, List.getElem_cons_zero, Act.put, List.setIfInBounds_toArray, List.set_cons_zero, List.set_cons_succ]
                refine wpAnyH_ready (rs := [9]) (by kernel_rfl) (by simp) ?_
                refine AllReadyH.cons rfl (fun K hK => ?_) ?_
                · go_simp
                  refine (HW.out _ _ Z.out).mono ?_
                  rintro e wk ⟨rfl, b1⟩
                  replace D := Lib.hid (D.out.kept b1)
                  replace RA := Lib.hid (RA.out.kept b1)
                  replace RB := Lib.hid (RB.out.kept b1)
                  clear b1
                  refine hK.out _ _ ⟨D.out.hm, D.out.hx, D.out.hf⟩ (fun _ => ?_)
                  clear hK K
                  refine wpAnyH_take (i := 10) (v := .tuple #[.agg (sA (k + 1)).cells, .agg (Rp.cells ⟨0, 0, 0⟩)]) rfl (by kernel_rfl) (by kernel_rfl) (by kernel_rfl) (fun _ _ _ h => h) (Or.inl ⟨by rfl, (fun W _ => by go_simp)⟩) ⟨D.out.hm, D.out.hx, D.out.hf⟩ ?_
                  simp only [List.getElem_toArray, List.getElem_cons_succ, List.getElem_cons_zero, Act.put, List.setIfInBounds_toArray, List.set_cons_zero, List.set_cons_succ]
                  refine wpAnyH_take (i := 11) (v := .agg (sA (k + 1)).cells) rfl (by kernel_rfl) (by kernel_rfl) (by kernel_rfl) (fun _ _ _ h => h) (Or.inl ⟨by rfl, (fun W _ => by go_simp)⟩) ⟨D.out.hm, D.out.hx, D.out.hf⟩ ?_
                  simp only [List.getElem_toArray, List.getElem_cons_succ, List.getElem_cons_zero, Act.put, List.setIfInBounds_toArray, List.set_cons_zero, List.set_cons_succ]
                  refine wpAnyH_take (i := 12) (v := .agg (Rp.cells ⟨0, 0, 0⟩)) rfl (by kernel_rfl) (by kernel_rfl) (by kernel_rfl) (fun _ _ _ h => h) (Or.inl ⟨by rfl, (fun W _ => by go_simp)⟩) ⟨D.out.hm, D.out.hx, D.out.hf⟩ ?_
                  simp only [List.getElem_toArray, List.getElem_cons_succ, List.getElem_cons_zero, Act.put, List.setIfInBounds_toArray, List.set_cons_zero, List.set_cons_succ]
                  refine wpAnyH_ready (rs := [15]) (by kernel_rfl) (by simp) ?_
                  refine AllReadyH.cons rfl (fun K hK => ?_) AllReadyH.nil
                  refine step_row rfl 27 _ _ rfl _ _ rfl rfl 27 _ RA.out (size27 ON.out) (old27 zeroT_ok ON.out) (mt_all _) ?_
                  intro w1 hs on1; replace RA := Lib.hid hs; replace RB := Lib.hid (Has.only RB.out on1 (by have := NE.out; omega)); replace D := Lib.hid (D.out.only on1 LA.out); clear hs on1
                  refine hK.out _ _ ⟨D.out.hm, D.out.hx, D.out.hf⟩ (fun _ => ?_)
                  clear hK K
                  refine wpAnyH_ready (rs := [16]) (by kernel_rfl) (by simp) ?_
                  refine AllReadyH.cons rfl (fun K hK => ?_) AllReadyH.nil
                  refine step_row rfl 36 _ _ rfl _ _ rfl rfl 36 _ RB.out (size36 _) rfl (rp_all _) ?_
                  intro w2 hs on2; replace RB := Lib.hid hs; replace RA := Lib.hid (Has.only RA.out on2 (by have := NE.out; omega)); replace D := Lib.hid (D.out.only on2 LB.out); clear hs on2
                  refine hK.out _ _ ⟨D.out.hm, D.out.hx, D.out.hf⟩ (fun _ => ?_)
                  clear hK K
                  refine wpAnyH_done (by kernel_rfl) ?_ _
                  go_wp2_with fail
                  go_meet
                  exact ⟨_, _, rfl, rfl, ⟨D.out, ON.out, RA.out, RB.out, LA.out⟩⟩
                exact AllReadyH.nil
              exact AllReadyH.nil
            exact AllReadyH.nil
          refine AllReadyH.cons rfl (fun K hK => ?_) ?_
          · go_simp
            have LB := Lib.hid (show r < wr.heap.size from Nat.lt_of_lt_of_eq D.out.hr.size (by simp))
            have RB := Lib.hid (D.out.new 36 zeroR.cells (wr.heap.size) (by simp))
            replace D := Lib.hid (D.out.more (.cells zeroR.cells 36))
            refine hK.out _ _ ⟨D.out.hm, D.out.hx, D.out.hf⟩ (fun _ => ?_)
            clear hK K
            refine wpAnyH_ready (rs := [6, 13]) (by kernel_rfl) (by simp) ?_
            refine AllReadyH.cons rfl (fun K hK => ?_) ?_
            · go_simp
              have Z := Lib.hid (D.out.new 5 (zeroBytes n) (wr.heap.size + 1) (by simp))
              replace RB := Lib.hid (RB.out.more (.cells (zeroBytes n) 5))
              replace D := Lib.hid (D.out.more (.cells (zeroBytes n) 5))
              refine hK.out _ _ ⟨D.out.hm, D.out.hx, D.out.hf⟩ (fun _ => ?_)
              clear hK K
              refine wpAnyH_take (i := 7) (v := .agg (Rq.cells ⟨2, (k : Int), some ⟨wr.heap.size + 1, 0, none⟩, n, n, List.replicate n 0⟩)) rfl (by kernel_rfl) (by kernel_rfl) (by kernel_rfl) (fun _ _ _ h => h) (yields_build (by rfl) 30 _ rfl _ (by kernel_rfl)) ⟨D.out.hm, D.out.hx, D.out.hf⟩ ?_
              simp only [List.getElem_toArray, List.getElem_cons_succ, List.getElem_cons_zero, Act.put, List.setIfInBounds_toArray, List.set_cons_zero, List.set_cons_succ]
              refine wpAnyH_ready (rs := [9, 13]) (by kernel_rfl) (by simp) ?_
              refine AllReadyH.cons rfl (fun K hK => ?_) ?_
              · go_simp
                refine (HW.out _ _ Z.out).mono ?_
                rintro e wk ⟨rfl, b1⟩
                replace D := Lib.hid (D.out.kept b1)
                replace RB := Lib.hid (RB.out.kept b1)
                clear b1
                refine hK.out _ _ ⟨D.out.hm, D.out.hx, D.out.hf⟩ (fun _ => ?_)
                clear hK K
                refine wpAnyH_take (i := 10) (v := .tuple #[.agg (sA (k + 1)).cells, .agg (Rp.cells ⟨0, 0, 0⟩)]) rfl (by kernel_rfl) (by kernel_rfl) (by kernel_rfl) (fun _ _ _ h => h) (Or.inl ⟨by rfl, (fun W _ => by go_simp)⟩) ⟨D.out.hm, D.out.hx, D.out.hf⟩ ?_
                simp only [List.getElem_toArray, List.getElem_cons_succ, List.getElem_cons_zero, Act.put, List.setIfInBounds_toArray, List.set_cons_zero, List.set_cons_succ]
                refine wpAnyH_take (i := 11) (v := .agg (sA (k + 1)).cells) rfl (by kernel_rfl) (by kernel_rfl) (by kernel_rfl) (fun _ _ _ h => h) (Or.inl ⟨by rfl, (fun W _ => by go_simp)⟩) ⟨D.out.hm, D.out.hx, D.out.hf⟩ ?_
                simp only [List.getElem_toArray, List.getElem_cons_succ, List.getElem_cons_zero, Act.put, List.setIfInBounds_toArray, List.set_cons_zero, List.set_cons_succ]
                refine wpAnyH_take (i := 12) (v := .agg (Rp.cells ⟨0, 0, 0⟩)) rfl (by kernel_rfl) (by kernel_rfl) (by kernel_rfl) (fun _ _ _ h => h) (Or.inl ⟨by rfl, (fun W _ => by go_simp)⟩) ⟨D.out.hm, D.out.hx, D.out.hf⟩ ?_
                simp only [List.getElem_toArray, List.getElem_cons_succ, List.getElem_cons_zero, Act.put, List.setIfInBounds_toArray, List.set_cons_zero, List.set_cons_succ]
                refine wpAnyH_ready (rs := [13]) (by kernel_rfl) (by simp) ?_
                refine AllReadyH.cons rfl (fun K hK => ?_) ?_
                · go_simp
                  have LA := Lib.hid (show r < wk.heap.size from Nat.lt_of_lt_of_eq D.out.hr.size (by simp))
                  have NE := Lib.hid (Nat.ne_of_lt (show wr.heap.size < wk.heap.size from Nat.lt_of_lt_of_eq RB.out.size (by simp)))
                  replace RB := Lib.hid (RB.out.more (.cells zeroT.cells 27))
                  have RA := Lib.hid (D.out.new 27 zeroT.cells (wk.heap.size) (by simp))
                  replace D := Lib.hid (D.out.more (.cells zeroT.cells 27))
                  refine hK.out _ _ ⟨D.out.hm, D.out.hx, D.out.hf⟩ (fun _ => ?_)
                  clear hK K
                  refine wpAnyH_ready (rs := [15]) (by kernel_rfl) (by simp) ?_
                  refine AllReadyH.cons rfl (fun K hK => ?_) AllReadyH.nil
                  refine step_row rfl 27 _ _ rfl _ _ rfl rfl 27 _ RA.out (size27 ON.out) (old27 zeroT_ok ON.out) (mt_all _) ?_
                  intro w1 hs on1; replace RA := Lib.hid hs; replace RB := Lib.hid (Has.only RB.out on1 (by have := NE.out; omega)); replace D := Lib.hid (D.out.only on1 LA.out); clear hs on1
                  refine hK.out _ _ ⟨D.out.hm, D.out.hx, D.out.hf⟩ (fun _ => ?_)
                  clear hK K
                  refine wpAnyH_ready (rs := [16]) (by kernel_rfl) (by simp) ?_
                  refine AllReadyH.cons rfl (fun K hK => ?_) AllReadyH.nil
                  refine step_row rfl 36 _ _ rfl _ _ rfl rfl 36 _ RB.out (size36 _) rfl (rp_all _) ?_
                  intro w2 hs on2; replace RB := Lib.hid hs; replace RA := Lib.hid (Has.only RA.out on2 (by have := NE.out; omega)); replace D := Lib.hid (D.out.only on2 LB.out); clear hs on2
                  refine hK.out _ _ ⟨D.out.hm, D.out.hx, D.out.hf⟩ (fun _ => ?_)
                  clear hK K
                  refine wpAnyH_done (by kernel_rfl) ?_ _
                  go_wp2_with fail
                  go_meet
                  exact ⟨_, _, rfl, rfl, ⟨D.out, ON.out, RA.out, RB.out, LA.out⟩⟩
                exact AllReadyH.nil
              refine AllReadyH.cons rfl (fun K hK => ?_) ?_
              · go_simp
                have LA := Lib.hid (show r < wr.heap.size + 1 + 1 from Nat.lt_of_lt_of_eq D.out.hr.size (by simp))
                have NE := Lib.hid (Nat.ne_of_lt (show wr.heap.size < wr.heap.size + 1 + 1 from Nat.lt_of_lt_of_eq RB.out.size (by simp)))
                replace RB := Lib.hid (RB.out.more (.cells zeroT.cells 27))
                have RA := Lib.hid (D.out.new 27 zeroT.cells (wr.heap.size + 1 + 1) (by simp))
                replace Z := Lib.hid (Z.out.more (.cells zeroT.cells 27))
                replace D := Lib.hid (D.out.more (.cells zeroT.cells 27))
                refine hK.out _ _ ⟨D.out.hm, D.out.hx, D.out.hf⟩ (fun _ => ?_)
                clear hK K
                refine wpAnyH_ready (rs := [9]) (by kernel_rfl) (by simp) ?_
                refine AllReadyH.cons rfl (fun K hK => ?_) ?_
                · go_simp
                  refine (HW.out _ _ Z.out).mono ?_
                  rintro e wk ⟨rfl, b1⟩
                  replace D := Lib.hid (D.out.kept b1)
                  replace RA := Lib.hid (RA.out.kept b1)
                  replace RB := Lib.hid (RB.out.kept b1)
                  clear b1
                  refine hK.out _ _ ⟨D.out.hm, D.out.hx, D.out.hf⟩ (fun _ => ?_)
                  clear hK K
                  refine wpAnyH_take (i := 10) (v := .tuple #[.agg (sA (k + 1)).cells, .agg (Rp.cells ⟨0, 0, 0⟩)]) rfl (by kernel_rfl) (by kernel_rfl) (by kernel_rfl) (fun _ _ _ h => h) (Or.inl ⟨by rfl, (fun W _ => by go_simp)⟩) ⟨D.out.hm, D.out.hx, D.out.hf⟩ ?_
                  simp only [List.getElem_toArray, List.getElem_cons_succ, List.getElem_cons_zero, Act.put, List.setIfInBounds_toArray, List.set_cons_zero, List.set_cons_succ]
                  refine wpAnyH_take (i := 11) (v := .agg (sA (k + 1)).cells) rfl (by kernel_rfl) (by kernel_rfl) (by kernel_rfl) (fun _ _ _ h => h) (Or.inl ⟨by rfl, (fun W _ => by go_simp)⟩) ⟨D.out.hm, D.out.hx, D.out.hf⟩ ?_
                  simp only [List.getElem_toArray, List.getElem_cons_succ, List.getElem_cons_zero, Act.put, List.setIfInBounds_toArray, List.set_cons_zero, List.set_cons_succ]
                  refine wpAnyH_take (i := 12) (v := .agg (Rp.cells ⟨0, 0, 0⟩)) rfl (by kernel_rfl) (by kernel_rfl) (by kernel_rfl) (fun _ _ _ h => h) (Or.inl ⟨by rfl, (fun W _ => by go_simp)⟩) ⟨D.out.hm, D.out.hx, D.out.hf⟩ ?_
                  simp only [List.getElem_toArray, List.getElem_cons_succ, List.getElem_cons_zero, Act.put, List.setIfInBounds_toArray, List.set_cons_zero, List.set_cons_succ]
                  refine wpAnyH_ready (rs := [15]) (by kernel_rfl) (by simp) ?_
                  refine AllReadyH.cons rfl (fun K hK => ?_) AllReadyH.nil
                  refine step_row rfl 27 _ _ rfl _ _ rfl rfl 27 _ RA.out (size27 ON.out) (old27 zeroT_ok ON.out) (mt_all _) ?_
                  intro w1 hs on1; replace RA := Lib.hid hs; replace RB := Lib.hid (Has.only RB.out on1 (by have := NE.out; omega)); replace D := Lib.hid (D.out.only on1 LA.out); clear hs on1
                  refine hK.out _ _ ⟨D.out.hm, D.out.hx, D.out.hf⟩ (fun _ => ?_)
                  clear hK K
                  refine wpAnyH_ready (rs := [16]) (by kernel_rfl) (by simp) ?_
                  refine AllReadyH.cons rfl (fun K hK => ?_) AllReadyH.nil
                  refine step_row rfl 36 _ _ rfl _ _ rfl rfl 36 _ RB.out (size36 _) rfl (rp_all _) ?_
                  intro w2 hs on2; replace RB := Lib.hid hs; replace RA := Lib.hid (Has.only RA.out on2 (by have := NE.out; omega)); replace D := Lib.hid (D.out.only on2 LB.out); clear hs on2
                  refine hK.out _ _ ⟨D.out.hm, D.out.hx, D.out.hf⟩ (fun _ => ?_)
                  clear hK K
                  refine wpAnyH_done (by kernel_rfl) ?_ _
                  go_wp2_with fail
                  go_meet
                  exact ⟨_, _, rfl, rfl, ⟨D.out, ON.out, RA.out, RB.out, LA.out⟩⟩
                exact AllReadyH.nil
              exact AllReadyH.nil
            refine AllReadyH.cons rfl (fun K hK => ?_) ?_
            · go_simp
              have LA := Lib.hid (show r < wr.heap.size + 1 from Nat.lt_of_lt_of_eq D.out.hr.size (by simp))
              have NE := Lib.hid (Nat.ne_of_lt (show wr.heap.size < wr.heap.size + 1 from Nat.lt_of_lt_of_eq RB.out.size (by simp)))
              replace RB := Lib.hid (RB.out.more (.cells zeroT.cells 27))
              have RA := Lib.hid (D.out.new 27 zeroT.cells (wr.heap.size + 1) (by simp))
              replace D := Lib.hid (D.out.more (.cells zeroT.cells 27))
              refine hK.out _ _ ⟨D.out.hm, D.out.hx, D.out.hf⟩ (fun _ => ?_)
              clear hK K
              refine wpAnyH_ready (rs := [6]) (by kernel_rfl) (by simp) ?_
              refine AllReadyH.cons rfl (fun K hK => ?_) ?_
              · go_simp
                have Z := Lib.hid (D.out.new 5 (zeroBytes n) (wr.heap.size + 1 + 1) (by simp))
                replace RA := Lib.hid (RA.out.more (.cells (zeroBytes n) 5))
                replace RB := Lib.hid (RB.out.more (.cells (zeroBytes n) 5))
                replace D := Lib.hid (D.out.more (.cells (zeroBytes n) 5))
                refine hK.out _ _ ⟨D.out.hm, D.out.hx, D.out.hf⟩ (fun _ => ?_)
                clear hK K
                refine wpAnyH_take (i := 7) (v := .agg (Rq.cells ⟨2, (k : Int), some ⟨wr.heap.size + 1 + 1, 0, none⟩, n, n, List.replicate n 0⟩)) rfl (by kernel_rfl) (by kernel_rfl) (by kernel_rfl) (fun _ _ _ h => h) (yields_build (by rfl) 30 _ rfl _ (by kernel_rfl)) ⟨D.out.hm, D.out.hx, D.out.hf⟩ ?_
                simp only [List.getElem_toArray, List.getElem_cons_succ, List.getElem_cons_zero, Act.put, List.setIfInBounds_toArray, List.set_cons_zero, List.set_cons_succ]
                refine wpAnyH_ready (rs := [9]) (by kernel_rfl) (by simp) ?_
                refine AllReadyH.cons rfl (fun K hK => ?_) ?_
                · go_simp
                  refine (HW.out _ _ Z.out).mono ?_
                  rintro e wk ⟨rfl, b1⟩
                  replace D := Lib.hid (D.out.kept b1)
                  replace RA := Lib.hid (RA.out.kept b1)
                  replace RB := Lib.hid (RB.out.kept b1)
                  clear b1
                  refine hK.out _ _ ⟨D.out.hm, D.out.hx, D.out.hf⟩ (fun _ => ?_)
                  clear hK K
                  refine wpAnyH_take (i := 10) (v := .tuple #[.agg (sA (k + 1)).cells, .agg (Rp.cells ⟨0, 0, 0⟩)]) rfl (by kernel_rfl) (by kernel_rfl) (by kernel_rfl) (fun _ _ _ h => h) (Or.inl ⟨by rfl, (fun W _ => by go_simp)⟩) ⟨D.out.hm, D.out.hx, D.out.hf⟩ ?_
                  simp only [List.getElem_toArray, List.getElem_cons_succ, List.getElem_cons_zero, Act.put, List.setIfInBounds_toArray, List.set_cons_zero, List.set_cons_succ]
                  refine wpAnyH_take (i := 11) (v := .agg (sA (k + 1)).cells) rfl (by kernel_rfl) (by kernel_rfl) (by kernel_rfl) (fun _ _ _ h => h) (Or.inl ⟨by rfl, (fun W _ => by go_simp)⟩) ⟨D.out.hm, D.out.hx, D.out.hf⟩ ?_
                  simp only [List.getElem_toArray, List.getElem_cons_succ, List.getElem_cons_zero, Act.put, List.setIfInBounds_toArray, List.set_cons_zero, List.set_cons_succ]
                  refine wpAnyH_take (i := 12) (v := .agg (Rp.cells ⟨0, 0, 0⟩)) rfl (by kernel_rfl) (by kernel_rfl) (by kernel_rfl) (fun _ _ _ h => h) (Or.inl ⟨by rfl, (fun W _ => by go_simp)⟩) ⟨D.out.hm, D.out.hx, D.out.hf⟩ ?_
                  simp only [List.getElem_toArray, List.getElem_cons_succ, List.getElem_cons_zero, Act.put, List.setIfInBounds_toArray, List.set_cons_zero, List.set_cons_succ]
                  refine wpAnyH_ready (rs := [15]) (by kernel_rfl) (by simp) ?_
                  refine AllReadyH.cons rfl (fun K hK => ?_) AllReadyH.nil
                  refine step_row rfl 27 _ _ rfl _ _ rfl rfl 27 _ RA.out (size27 ON.out) (old27 zeroT_ok ON.out) (mt_all _) ?_
                  intro w1 hs on1; replace RA := Lib.hid hs; replace RB := Lib.hid (Has.only RB.out on1 (by have := NE.out; omega)); replace D := Lib.hid (D.out.only on1 LA.out); clear hs on1
                  refine hK.out _ _ ⟨D.out.hm, D.out.hx, D.out.hf⟩ (fun _ => ?_)
                  clear hK K
                  refine wpAnyH_ready (rs := [16]) (by kernel_rfl) (by simp) ?_
                  refine AllReadyH.cons rfl (fun K hK => ?_) AllReadyH.nil
                  refine step_row rfl 36 _ _ rfl _ _ rfl rfl 36 _ RB.out (size36 _) rfl (rp_all _) ?_
                  intro w2 hs on2; replace RB := Lib.hid hs; replace RA := Lib.hid (Has.only RA.out on2 (by have := NE.out; omega)); replace D := Lib.hid (D.out.only on2 LB.out); clear hs on2
                  refine hK.out _ _ ⟨D.out.hm, D.out.hx, D.out.hf⟩ (fun _ => ?_)
                  clear hK K
                  refine wpAnyH_done (by kernel_rfl) ?_ _
                  go_wp2_with fail
                  go_meet
                  exact ⟨_, _, rfl, rfl, ⟨D.out, ON.out, RA.out, RB.out, LA.out⟩⟩
                exact AllReadyH.nil
              exact AllReadyH.nil
            exact AllReadyH.nil
          exact AllReadyH.nil
        refine AllReadyH.cons rfl (fun K hK => ?_) ?_
        · go_simp
          have LA := Lib.hid (show r < wr.heap.size from Nat.lt_of_lt_of_eq D.out.hr.size (by simp))
          have RA := Lib.hid (D.out.new 27 zeroT.cells (wr.heap.size) (by simp))
          replace D := Lib.hid (D.out.more (.cells zeroT.cells 27))
          refine hK.out _ _ ⟨D.out.hm, D.out.hx, D.out.hf⟩ (fun _ => ?_)
          clear hK K
          refine wpAnyH_ready (rs := [5, 14]) (by kernel_rfl) (by simp) ?_
          refine AllReadyH.cons rfl (fun K hK => ?_) ?_
          · go_simp
            refine (HN.out _).mono ?_
            rintro e wy ⟨rfl, rfl⟩
            refine hK.out _ _ ⟨D.out.hm, D.out.hx, D.out.hf⟩ (fun _ => ?_)
            clear hK K
            refine wpAnyH_ready (rs := [6, 14]) (by kernel_rfl) (by simp) ?_
            refine AllReadyH.cons rfl (fun K hK => ?_) ?_
            · go_simp
              have Z := Lib.hid (D.out.new 5 (zeroBytes n) (wr.heap.size + 1) (by simp))
              replace RA := Lib.hid (RA.out.more (.cells (zeroBytes n) 5))
              replace D := Lib.hid (D.out.more (.cells (zeroBytes n) 5))
              refine hK.out _ _ ⟨D.out.hm, D.out.hx, D.out.hf⟩ (fun _ => ?_)
              clear hK K
              refine wpAnyH_take (i := 7) (v := .agg (Rq.cells ⟨2, (k : Int), some ⟨wr.heap.size + 1, 0, none⟩, n, n, List.replicate n 0⟩)) rfl (by kernel_rfl) (by kernel_rfl) (by kernel_rfl) (fun _ _ _ h => h) (yields_build (by rfl) 30 _ rfl _ (by kernel_rfl)) ⟨D.out.hm, D.out.hx, D.out.hf⟩ ?_
              simp only [List.getElem_toArray, List.getElem_cons_succ, List.getElem_cons_zero, Act.put, List.setIfInBounds_toArray, List.set_cons_zero, List.set_cons_succ]
              refine wpAnyH_ready (rs := [9, 14]) (by kernel_rfl) (by simp) ?_
              refine AllReadyH.cons rfl (fun K hK => ?_) ?_
              · go_simp
                refine (HW.out _ _ Z.out).mono ?_
                rintro e wk ⟨rfl, b1⟩
                replace D := Lib.hid (D.out.kept b1)
                replace RA := Lib.hid (RA.out.kept b1)
                clear b1
                refine hK.out _ _ ⟨D.out.hm, D.out.hx, D.out.hf⟩ (fun _ => ?_)
                clear hK K
                refine wpAnyH_take (i := 10) (v := .tuple #[.agg (sA (k + 1)).cells, .agg (Rp.cells ⟨0, 0, 0⟩)]) rfl (by kernel_rfl) (by kernel_rfl) (by kernel_rfl) (fun _ _ _ h => h) (Or.inl ⟨by rfl, (fun W _ => by go_simp)⟩) ⟨D.out.hm, D.out.hx, D.out.hf⟩ ?_
                simp only [List.getElem_toArray, List.getElem_cons_succ, List.getElem_cons_zero, Act.put, List.setIfInBounds_toArray, List.set_cons_zero, List.set_cons_succ]
                refine wpAnyH_take (i := 11) (v := .agg (sA (k + 1)).cells) rfl (by kernel_rfl) (by kernel_rfl) (by kernel_rfl) (fun _ _ _ h => h) (Or.inl ⟨by rfl, (fun W _ => by go_simp)⟩) ⟨D.out.hm, D.out.hx, D.out.hf⟩ ?_
                simp only [List.getElem_toArray, List.getElem_cons_succ, List.getElem_cons_zero, Act.put, List.setIfInBounds_toArray, List.set_cons_zero, List.set_cons_succ]
                refine wpAnyH_take (i := 12) (v := .agg (Rp.cells ⟨0, 0, 0⟩)) rfl (by kernel_rfl) (by kernel_rfl) (by kernel_rfl) (fun _ _ _ h => h) (Or.inl ⟨by rfl, (fun W _ => by go_simp)⟩) ⟨D.out.hm, D.out.hx, D.out.hf⟩ ?_
                simp only [List.getElem_toArray, List.getElem_cons_succ, List.getElem_cons_zero, Act.put, List.setIfInBounds_toArray, List.set_cons_zero, List.set_cons_succ]
                refine wpAnyH_ready (rs := [14]) (by kernel_rfl) (by simp) ?_
                refine AllReadyH.cons rfl (fun K hK => ?_) ?_
                · go_simp
                  have LB := Lib.hid (show r < wk.heap.size from Nat.lt_of_lt_of_eq D.out.hr.size (by simp))
                  have NE := Lib.hid (Nat.ne_of_lt (show wr.heap.size < wk.heap.size from Nat.lt_of_lt_of_eq RA.out.size (by simp)))
                  replace RA := Lib.hid (RA.out.more (.cells zeroR.cells 36))
                  have RB := Lib.hid (D.out.new 36 zeroR.cells (wk.heap.size) (by simp))
                  replace D := Lib.hid (D.out.more (.cells zeroR.cells 36))
                  refine hK.out _ _ ⟨D.out.hm, D.out.hx, D.out.hf⟩ (fun _ => ?_)
                  clear hK K
                  refine wpAnyH_ready (rs := [15]) (by kernel_rfl) (by simp) ?_
                  refine AllReadyH.cons rfl (fun K hK => ?_) AllReadyH.nil
                  refine step_row rfl 27 _ _ rfl _ _ rfl rfl 27 _ RA.out (size27 ON.out) (old27 zeroT_ok ON.out) (mt_all _) ?_
                  intro w1 hs on1; replace RA := Lib.hid hs; replace RB := Lib.hid (Has.only RB.out on1 (by have := NE.out; omega)); replace D := Lib.hid (D.out.only on1 LA.out); clear hs on1
                  refine hK.out _ _ ⟨D.out.hm, D.out.hx, D.out.hf⟩ (fun _ => ?_)
                  clear hK K
                  refine wpAnyH_ready (rs := [16]) (by kernel_rfl) (by simp) ?_
                  refine AllReadyH.cons rfl (fun K hK => ?_) AllReadyH.nil
                  refine step_row rfl 36 _ _ rfl _ _ rfl rfl 36 _ RB.out (size36 _) rfl (rp_all _) ?_
                  intro w2 hs on2; replace RB := Lib.hid hs; replace RA := Lib.hid (Has.only RA.out on2 (by have := NE.out; omega)); replace D := Lib.hid (D.out.only on2 LB.out); clear hs on2
                  refine hK.out _ _ ⟨D.out.hm, D.out.hx, D.out.hf⟩ (fun _ => ?_)
                  clear hK K
                  refine wpAnyH_done (by kernel_rfl) ?_ _
                  go_wp2_with fail
                  go_meet
                  exact ⟨_, _, rfl, rfl, ⟨D.out, ON.out, RA.out, RB.out, LA.out⟩⟩
                exact AllReadyH.nil
              refine AllReadyH.cons rfl (fun K hK => ?_) ?_
              · go_simp
                have LB := Lib.hid (show r < wr.heap.size + 1 + 1 from Nat.lt_of_lt_of_eq D.out.hr.size (by simp))
                have NE := Lib.hid (Nat.ne_of_lt (show wr.heap.size < wr.heap.size + 1 + 1 from Nat.lt_of_lt_of_eq RA.out.size (by simp)))
                replace RA := Lib.hid (RA.out.more (.cells zeroR.cells 36))
                have RB := Lib.hid (D.out.new 36 zeroR.cells (wr.heap.size + 1 + 1) (by simp))
                replace Z := Lib.hid (Z.out.more (.cells zeroR.cells 36))
                replace D := Lib.hid (D.out.more (.cells zeroR.cells 36))
                refine hK.out _ _ ⟨D.out.hm, D.out.hx, D.out.hf⟩ (fun _ => ?_)
                clear hK K
                refine wpAnyH_ready (rs := [9]) (by kernel_rfl) (by simp) ?_
                refine AllReadyH.cons rfl (fun K hK => ?_) ?_
                · go_simp
                  refine (HW.out _ _ Z.out).mono ?_
                  rintro e wk ⟨rfl, b1⟩
                  replace D := Lib.hid (D.out.kept b1)
                  replace RA := Lib.hid (RA.out.kept b1)
                  replace RB := Lib.hid (RB.out.kept b1)
                  clear b1
                  refine hK.out _ _ ⟨D.out.hm, D.out.hx, D.out.hf⟩ (fun _ => ?_)
                  clear hK K
                  refine wpAnyH_take (i := 10) (v := .tuple #[.agg (sA (k + 1)).cells, .agg (Rp.cells ⟨0, 0, 0⟩)]) rfl (by kernel_rfl) (by kernel_rfl) (by kernel_rfl) (fun _ _ _ h => h) (Or.inl ⟨by rfl, (fun W _ => by go_simp)⟩) ⟨D.out.hm, D.out.hx, D.out.hf⟩ ?_
                  simp only [List.getElem_toArray, List.getElem_cons_succ, List.getElem_cons_zero, Act.put, List.setIfInBounds_toArray, List.set_cons_zero, List.set_cons_succ]
                  refine wpAnyH_take (i := 11) (v := .agg (sA (k + 1)).cells) rfl (by kernel_rfl) (by kernel_rfl) (by kernel_rfl) (fun _ _ _ h => h) (Or.inl ⟨by rfl, (fun W _ => by go_simp)⟩) ⟨D.out.hm, D.out.hx, D.out.hf⟩ ?_
                  simp only [List.getElem_toArray, List.getElem_cons_succ, List.getElem_cons_zero, Act.put, List.setIfInBounds_toArray, List.set_cons_zero, List.set_cons_succ]
                  refine wpAnyH_take (i := 12) (v := .agg (Rp.cells ⟨0, 0, 0⟩)) rfl (by kernel_rfl) (by kernel_rfl) (by kernel_rfl) (fun _ _ _ h => h) (Or.inl ⟨by rfl, (fun W _ => by go_simp)⟩) ⟨D.out.hm, D.out.hx, D.out.hf⟩ ?_
                  simp only [List.getElem_toArray, List.getElem_cons_succ, List.getElem_cons_zero, Act.put, List.setIfInBounds_toArray, List.set_cons_zero, List.set_cons_succ]
                  refine wpAnyH_ready (rs := [15]) (by kernel_rfl) (by simp) ?_
                  refine AllReadyH.cons rfl (fun K hK => ?_) AllReadyH.nil
                  refine step_row rfl 27 _ _ rfl _ _ rfl rfl 27 _ RA.out (size27 ON.out) (old27 zeroT_ok ON.out) (mt_all _) ?_
                  intro w1 hs on1; replace RA := Lib.hid hs; replace RB := Lib.hid (Has.only RB.out on1 (by have := NE.out; omega)); replace D := Lib.hid (D.out.only on1 LA.out); clear hs on1
                  refine hK.out _ _ ⟨D.out.hm, D.out.hx, D.out.hf⟩ (fun _ => ?_)
                  clear hK K
                  refine wpAnyH_ready (rs := [16]) (by kernel_rfl) (by simp) ?_
                  refine AllReadyH.cons rfl (fun K hK => ?_) AllReadyH.nil
                  refine step_row rfl 36 _ _ rfl _ _ rfl rfl 36 _ RB.out (size36 _) rfl (rp_all _) ?_
                  intro w2 hs on2; replace RB := Lib.hid hs; replace RA := Lib.hid (Has.only RA.out on2 (by have := NE.out; omega)); replace D := Lib.hid (D.out.only on2 LB.out); clear hs on2
                  refine hK.out _ _ ⟨D.out.hm, D.out.hx, D.out.hf⟩ (fun _ => ?_)
                  clear hK K
                  refine wpAnyH_done (by kernel_rfl) ?_ _
                  go_wp2_with fail
                  go_meet
                  exact ⟨_, _, rfl, rfl, ⟨D.out, ON.out, RA.out, RB.out, LA.out⟩⟩
                exact AllReadyH.nil
              exact AllReadyH.nil
            refine AllReadyH.cons rfl (fun K hK => ?_) ?_
            · go_simp
              have LB := Lib.hid (show r < wr.heap.size + 1 from Nat.lt_of_lt_of_eq D.out.hr.size (by simp))
              have NE := Lib.hid (Nat.ne_of_lt (show wr.heap.size < wr.heap.size + 1 from Nat.lt_of_lt_of_eq RA.out.size (by simp)))
              replace RA := Lib.hid (RA.out.more (.cells zeroR.cells 36))
              have RB := Lib.hid (D.out.new 36 zeroR.cells (wr.heap.size + 1) (by simp))
              replace D := Lib.hid (D.out.more (.cells zeroR.cells 36))
              refine hK.out _ _ ⟨D.out.hm, D.out.hx, D.out.hf⟩ (fun _ => ?_)
              clear hK K
              refine wpAnyH_ready (rs := [6]) (by kernel_rfl) (by simp) ?_
              refine AllReadyH.cons rfl (fun K hK => ?_) ?_
              · go_simp
                have Z := Lib.hid (D.out.new 5 (zeroBytes n) (wr.heap.size + 1 + 1) (by simp))
                replace RA := Lib.hid (RA.out.more (.cells (zeroBytes n) 5))
                replace RB := Lib.hid (RB.out.more (.cells (zeroBytes n) 5))
                replace D := Lib.hid (D.out.more (.cells (zeroBytes n) 5))
                refine hK.out _ _ ⟨D.out.hm, D.out.hx, D.out.hf⟩ (fun _ => ?_)
                clear hK K
                refine wpAnyH_take (i := 7) (v := .agg (Rq.cells ⟨2, (k : Int), some ⟨wr.heap.size + 1 + 1, 0, none⟩, n, n, List.replicate n 0⟩)) rfl (by kernel_rfl) (by kernel_rfl) (by kernel_rfl) (fun _ _ _ h => h) (yields_build (by rfl) 30 _ rfl _ (by kernel_rfl)) ⟨D.out.hm, D.out.hx, D.out.hf⟩ ?_
                simp only [List.getElem_toArray, List.getElem_cons_succ, List.getElem_cons_zero, Act.put, List.setIfInBounds_toArray, List.set_cons_zero, List.set_cons_succ]
                refine wpAnyH_ready (rs := [9]) (by kernel_rfl) (by simp) ?_
                refine AllReadyH.cons rfl (fun K hK => ?_) ?_
                · go_simp
                  refine (HW.out _ _ Z.out).mono ?_
                  rintro e wk ⟨rfl, b1⟩
                  replace D := Lib.hid (D.out.kept b1)
                  replace RA := Lib.hid (RA.out.kept b1)
                  replace RB := Lib.hid (RB.out.kept b1)
                  clear b1
                  refine hK.out _ _ ⟨D.out.hm, D.out.hx, D.out.hf⟩ (fun _ => ?_)
                  clear hK K
                  refine wpAnyH_take (i := 10) (v := .tuple #[.agg (sA (k + 1)).cells, .agg (Rp.cells ⟨0, 0, 0⟩)]) rfl (by kernel_rfl) (by kernel_rfl) (by kernel_rfl) (fun _ _ _ h => h) (Or.inl ⟨by rfl, (fun W _ => by go_simp)⟩) ⟨D.out.hm, D.out.hx, D.out.hf⟩ ?_
                  simp only [List.getElem_toArray, List.getElem_cons_succ, List.getElem_cons_zero, Act.put, List.setIfInBounds_toArray, List.set_cons_zero, List.set_cons_succ]
                  refine wpAnyH_take (i := 11) (v := .agg (sA (k + 1)).cells) rfl (by kernel_rfl) (by kernel_rfl) (by kernel_rfl) (fun _ _ _ h => h) (Or.inl ⟨by rfl, (fun W _ => by go_simp)⟩) ⟨D.out.hm, D.out.hx, D.out.hf⟩ ?_
                  simp only [List.getElem_toArray, List.getElem_cons_succ, List.getElem_cons_zero, Act.put, List.setIfInBounds_toArray, List.set_cons_zero, List.set_cons_succ]
                  refine wpAnyH_take (i := 12) (v := .agg (Rp.cells ⟨0, 0, 0⟩)) rfl (by kernel_rfl) (by kernel_rfl) (by kernel_rfl) (fun _ _ _ h => h) (Or.inl ⟨by rfl, (fun W _ => by go_simp)⟩) ⟨D.out.hm, D.out.hx, D.out.hf⟩ ?_
                  simp only [List.getElem_toArray, List.getElem_cons_succ, List.getElem_cons_zero, Act.put, List.setIfInBounds_toArray, List.set_cons_zero, List.set_cons_succ]
                  refine wpAnyH_ready (rs := [15]) (by kernel_rfl) (by simp) ?_
                  refine AllReadyH.cons rfl (fun K hK => ?_) AllReadyH.nil
                  refine step_row rfl 27 _ _ rfl _ _ rfl rfl 27 _ RA.out (size27 ON.out) (old27 zeroT_ok ON.out) (mt_all _) ?_
                  intro w1 hs on1; replace RA := Lib.hid hs; replace RB := Lib.hid (Has.only RB.out on1 (by have := NE.out; omega)); replace D := Lib.hid (D.out.only on1 LA.out); clear hs on1
                  refine hK.out _ _ ⟨D.out.hm, D.out.hx, D.out.hf⟩ (fun _ => ?_)
                  clear hK K
                  refine wpAnyH_ready (rs := [16]) (by kernel_rfl) (by simp) ?_
                  refine AllReadyH.cons rfl (fun K hK => ?_) AllReadyH.nil
                  refine step_row rfl 36 _ _ rfl _ _ rfl rfl 36 _ RB.out (size36 _) rfl (rp_all _) ?_
                  intro w2 hs on2; replace RB := Lib.hid hs; replace RA := Lib.hid (Has.only RA.out on2 (by have := NE.out; omega)); replace D := Lib.hid (D.out.only on2 LB.out); clear hs on2
                  refine hK.out _ _ ⟨D.out.hm, D.out.hx, D.out.hf⟩ (fun _ => ?_)
                  clear hK K
                  refine wpAnyH_done (by kernel_rfl) ?_ _
                  go_wp2_with fail
                  go_meet
                  exact ⟨_, _, rfl, rfl, ⟨D.out, ON.out, RA.out, RB.out, LA.out⟩⟩
                exact AllReadyH.nil
              exact AllReadyH.nil
            exact AllReadyH.nil
          refine AllReadyH.cons rfl (fun K hK => ?_) ?_
          · go_simp
            have LB := Lib.hid (show r < wr.heap.size + 1 from Nat.lt_of_lt_of_eq D.out.hr.size (by simp))
            have NE := Lib.hid (Nat.ne_of_lt (show wr.heap.size < wr.heap.size + 1 from Nat.lt_of_lt_of_eq RA.out.size (by simp)))
            replace RA := Lib.hid (RA.out.more (.cells zeroR.cells 36))
            have RB := Lib.hid (D.out.new 36 zeroR.cells (wr.heap.size + 1) (by simp))
            replace D := Lib.hid (D.out.more (.cells zeroR.cells 36))
            refine hK.out _ _ ⟨D.out.hm, D.out.hx, D.out.hf⟩ (fun _ => ?_)
            clear hK K
            refine wpAnyH_ready (rs := [5]) (by kernel_rfl) (by simp) ?_
            refine AllReadyH.cons rfl (fun K hK => ?_) ?_
            · go_simp
              refine (HN.out _).mono ?_
              rintro e wy ⟨rfl, rfl⟩
              refine hK.out _ _ ⟨D.out.hm, D.out.hx, D.out.hf⟩ (fun _ => ?_)
              clear hK K
              refine wpAnyH_ready (rs := [6]) (by kernel_rfl) (by simp) ?_
              refine AllReadyH.cons rfl (fun K hK => ?_) ?_
              · go_simp
                have Z := Lib.hid (D.out.new 5 (zeroBytes n) (wr.heap.size + 1 + 1) (by simp))
                replace RA := Lib.hid (RA.out.more (.cells (zeroBytes n) 5))
                replace RB := Lib.hid (RB.out.more (.cells (zeroBytes n) 5))
                replace D := Lib.hid (D.out.more (.cells (zeroBytes n) 5))
                refine hK.out _ _ ⟨D.out.hm, D.out.hx, D.out.hf⟩ (fun _ => ?_)
                clear hK K
                refine wpAnyH_take (i := 7) (v := .agg (Rq.cells ⟨2, (k : Int), some ⟨wr.heap.size + 1 + 1, 0, none⟩, n, n, List.replicate n 0⟩)) rfl (by kernel_rfl) (by kernel_rfl) (by kernel_rfl) (fun _ _ _ h => h) (yields_build (by rfl) 30 _ rfl _ (by kernel_rfl)) ⟨D.out.hm, D.out.hx, D.out.hf⟩ ?_
                simp only [List.getElem_toArray, List.getElem_cons_succ, List.getElem_cons_zero, Act.put, List.setIfInBounds_toArray, List.set_cons_zero, List.set_cons_succ]
                refine wpAnyH_ready (rs := [9]) (by kernel_rfl) (by simp) ?_
                refine AllReadyH.cons rfl (fun K hK => ?_) ?_
                · go_simp
                  refine (HW.out _ _ Z.out).mono ?_
                  rintro e wk ⟨rfl, b1⟩
                  replace D := Lib.hid (D.out.kept b1)
                  replace RA := Lib.hid (RA.out.kept b1)
                  replace RB := Lib.hid (RB.out.kept b1)
                  clear b1
                  refine hK.out _ _ ⟨D.out.hm, D.out.hx, D.out.hf⟩ (fun _ => ?_)
                  clear hK K
                  refine wpAnyH_take (i := 10) (v := .tuple #[.agg (sA (k + 1)).cells, .agg (Rp.cells ⟨0, 0, 0⟩)]) rfl (by kernel_rfl) (by kernel_rfl) (by kernel_rfl) (fun _ _ _ h => h) (Or.inl ⟨by rfl, (fun W _ => by go_simp)⟩) ⟨D.out.hm, D.out.hx, D.out.hf⟩ ?_
                  simp only [List.getElem_toArray, List.getElem_cons_succ, List.getElem_cons_zero, Act.put, List.setIfInBounds_toArray, List.set_cons_zero, List.set_cons_succ]
                  refine wpAnyH_take (i := 11) (v := .agg (sA (k + 1)).cells) rfl (by kernel_rfl) (by kernel_rfl) (by kernel_rfl) (fun _ _ _ h => h) (Or.inl ⟨by rfl, (fun W _ => by go_simp)⟩) ⟨D.out.hm, D.out.hx, D.out.hf⟩ ?_
                  simp only [List.getElem_toArray, List.getElem_cons_succ, List.getElem_cons_zero, Act.put, List.setIfInBounds_toArray, List.set_cons_zero, List.set_cons_succ]
                  refine wpAnyH_take (i := 12) (v := .agg (Rp.cells ⟨0, 0, 0⟩)) rfl (by kernel_rfl) (by kernel_rfl) (by kernel_rfl) (fun _ _ _ h => h) (Or.inl ⟨by rfl, (fun W _ => by go_simp)⟩) ⟨D.out.hm, D.out.hx, D.out.hf⟩ ?_
                  simp only [List.getElem_toArray, List.getElem_cons_succ, List.getElem_cons_zero, Act.put, List.setIfInBounds_toArray, List.set_cons_zero, List.set_cons_succ]
                  refine wpAnyH_ready (rs := [15]) (by kernel_rfl) (by simp) ?_
                  refine AllReadyH.cons rfl (fun K hK => ?_) AllReadyH.nil
                  refine step_row rfl 27 _ _ rfl _ _ rfl rfl 27 _ RA.out (size27 ON.out) (old27 zeroT_ok ON.out) (mt_all _) ?_
                  intro w1 hs on1; replace RA := Lib.hid hs; replace RB := Lib.hid (Has.only RB.out on1 (by have := NE.out; omega)); replace D := Lib.hid (D.out.only on1 LA.out); clear hs on1
                  refine hK.out _ _ ⟨D.out.hm, D.out.hx, D.out.hf⟩ (fun _ => ?_)
                  clear hK K
                  refine wpAnyH_ready (rs := [16]) (by kernel_rfl) (by simp) ?_
                  refine AllReadyH.cons rfl (fun K hK => ?_) AllReadyH.nil
                  refine step_row rfl 36 _ _ rfl _ _ rfl rfl 36 _ RB.out (size36 _) rfl (rp_all _) ?_
                  intro w2 hs on2; replace RB := Lib.hid hs; replace RA := Lib.hid (Has.only RA.out on2 (by have := NE.out; omega)); replace D := Lib.hid (D.out.only on2 LB.out); clear hs on2
                  refine hK.out _ _ ⟨D.out.hm, D.out.hx, D.out.hf⟩ (fun _ => ?_)
                  clear hK K
                  refine wpAnyH_done (by kernel_rfl) ?_ _
                  go_wp2_with fail
                  go_meet
                  exact ⟨_, _, rfl, rfl, ⟨D.out, ON.out, RA.out, RB.out, LA.out⟩⟩
                exact AllReadyH.nil
              exact AllReadyH.nil
            exact AllReadyH.nil
          exact AllReadyH.nil
        refine AllReadyH.cons rfl (fun K hK => ?_) ?_
        · go_simp
          have LB := Lib.hid (show r < wr.heap.size from Nat.lt_of_lt_of_eq D.out.hr.size (by simp))
          have RB := Lib.hid (D.out.new 36 zeroR.cells (wr.heap.size) (by simp))
          replace D := Lib.hid (D.out.more (.cells zeroR.cells 36))
          refine hK.out _ _ ⟨D.out.hm, D.out.hx, D.out.hf⟩ (fun _ => ?_)
          clear hK K
          refine wpAnyH_ready (rs := [5, 13]) (by kernel_rfl) (by simp) ?_
          refine AllReadyH.cons rfl (fun K hK => ?_) ?_
          · go_simp
            refine (HN.out _).mono ?_
            rintro e wy ⟨rfl, rfl⟩
            refine hK.out _ _ ⟨D.out.hm, D.out.hx, D.out.hf⟩ (fun _ => ?_)
            clear hK K
            refine wpAnyH_ready (rs := [6, 13]) (by kernel_rfl) (by simp) ?_
            refine AllReadyH.cons rfl (fun K hK => ?_) ?_
            · go_simp
              have Z := Lib.hid (D.out.new 5 (zeroBytes n) (wr.heap.size + 1) (by simp))
              replace RB := Lib.hid (RB.out.more (.cells (zeroBytes n) 5))
              replace D := Lib.hid (D.out.more (.cells (zeroBytes n) 5))
              refine hK.out _ _ ⟨D.out.hm, D.out.hx, D.out.hf⟩ (fun _ => ?_)
              clear hK K
              refine wpAnyH_take (i := 7) (v := .agg (Rq.cells ⟨2, (k : Int), some ⟨wr.heap.size + 1, 0, none⟩, n, n, List.replicate n 0⟩)) rfl (by kernel_rfl) (by kernel_rfl) (by kernel_rfl) (fun _ _ _ h => h) (yields_build (by rfl) 30 _ rfl _ (by kernel_rfl)) ⟨D.out.hm, D.out.hx, D.out.hf⟩ ?_
              simp only [List.getElem_toArray, List.getElem_cons_succ, List.getElem_cons_zero, Act.put, List.setIfInBounds_toArray, List.set_cons_zero, List.set_cons_succ]
              refine wpAnyH_ready (rs := [9, 13]) (by kernel_rfl) (by simp) ?_
              refine AllReadyH.cons rfl (fun K hK => ?_) ?_
              · go_simp
                refine (HW.out _ _ Z.out).mono ?_
                rintro e wk ⟨rfl, b1⟩
                replace D := Lib.hid (D.out.kept b1)
                replace RB := Lib.hid (RB.out.kept b1)
                clear b1
                refine hK.out _ _ ⟨D.out.hm, D.out.hx, D.out.hf⟩ (fun _ => ?_)
                clear hK K
                refine wpAnyH_take (i := 10) (v := .tuple #[.agg (sA (k + 1)).cells, .agg (Rp.cells ⟨0, 0, 0⟩)]) rfl (by kernel_rfl) (by kernel_rfl) (by kernel_rfl) (fun _ _ _ h => h) (Or.inl ⟨by rfl, (fun W _ => by go_simp)⟩) ⟨D.out.hm, D.out.hx, D.out.hf⟩ ?_
                simp only [List.getElem_toArray, List.getElem_cons_succ, List.getElem_cons_zero, Act.put, List.setIfInBounds_toArray, List.set_cons_zero, List.set_cons_succ]
                refine wpAnyH_take (i := 11) (v := .agg (sA (k + 1)).cells) rfl (by kernel_rfl) (by kernel_rfl) (by kernel_rfl) (fun _ _ _ h => h) (Or.inl ⟨by rfl, (fun W _ => by go_simp)⟩) ⟨D.out.hm, D.out.hx, D.out.hf⟩ ?_
                simp only [List.getElem_toArray, List.getElem_cons_succ, List.getElem_cons_zero, Act.put, List.setIfInBounds_toArray, List.set_cons_zero, List.set_cons_succ]
                refine wpAnyH_take (i := 12) (v := .agg (Rp.cells ⟨0, 0, 0⟩)) rfl (by kernel_rfl) (by kernel_rfl) (by kernel_rfl) (fun _ _ _ h => h) (Or.inl ⟨by rfl, (fun W _ => by go_simp)⟩) ⟨D.out.hm, D.out.hx, D.out.hf⟩ ?_
                simp only [List.getElem_toArray, List.getElem_cons_succ, List.getElem_cons_zero, Act.put, List.setIfInBounds_toArray, List.set_cons_zero, List.set_cons_succ]
                refine wpAnyH_ready (rs := [13]) (by kernel_rfl) (by simp) ?_
                refine AllReadyH.cons rfl (fun K hK => ?_) ?_
                · go_simp
                  have LA := Lib.hid (show r < wk.heap.size from Nat.lt_of_lt_of_eq D.out.hr.size (by simp))
                  have NE := Lib.hid (Nat.ne_of_lt (show wr.heap.size < wk.heap.size from Nat.lt_of_lt_of_eq RB.out.size (by simp)))
                  replace RB := Lib.hid (RB.out.more (.cells zeroT.cells 27))
                  have RA := Lib.hid (D.out.new 27 zeroT.cells (wk.heap.size) (by simp))
                  replace D := Lib.hid (D.out.more (.cells zeroT.cells 27))
                  refine hK.out _ _ ⟨D.out.hm, D.out.hx, D.out.hf⟩ (fun _ => ?_)
                  clear hK K
                  refine wpAnyH_ready (rs := [15]) (by kernel_rfl) (by simp) ?_
                  refine AllReadyH.cons rfl (fun K hK => ?_) AllReadyH.nil
                  refine step_row rfl 27 _ _ rfl _ _ rfl rfl 27 _ RA.out (size27 ON.out) (old27 zeroT_ok ON.out) (mt_all _) ?_
                  intro w1 hs on1; replace RA := Lib.hid hs; replace RB := Lib.hid (Has.only RB.out on1 (by have := NE.out; omega)); replace D := Lib.hid (D.out.only on1 LA.out); clear hs on1
                  refine hK.out _ _ ⟨D.out.hm, D.out.hx, D.out.hf⟩ (fun _ => ?_)
                  clear hK K
                  refine wpAnyH_ready (rs := [16]) (by kernel_rfl) (by simp) ?_
                  refine AllReadyH.cons rfl (fun K hK => ?_) AllReadyH.nil
                  refine step_row rfl 36 _ _ rfl _ _ rfl rfl 36 _ RB.out (size36 _) rfl (rp_all _) ?_
                  intro w2 hs on2; replace RB := Lib.hid hs; replace RA := Lib.hid (Has.only RA.out on2 (by have := NE.out; omega)); replace D := Lib.hid (D.out.only on2 LB.out); clear hs on2
                  refine hK.out _ _ ⟨D.out.hm, D.out.hx, D.out.hf⟩ (fun _ => ?_)
                  clear hK K
                  refine wpAnyH_done (by kernel_rfl) ?_ _
                  go_wp2_with fail
                  go_meet
                  exact ⟨_, _, rfl, rfl, ⟨D.out, ON.out, RA.out, RB.out, LA.out⟩⟩
                exact AllReadyH.nil
              refine AllReadyH.cons rfl (fun K hK => ?_) ?_
              · go_simp
                have LA := Lib.hid (show r < wr.heap.size + 1 + 1 from Nat.lt_of_lt_of_eq D.out.hr.size (by simp))
                have NE := Lib.hid (Nat.ne_of_lt (show wr.heap.size < wr.heap.size + 1 + 1 from Nat.lt_of_lt_of_eq RB.out.size (by simp)))
                replace RB := Lib.hid (RB.out.more (.cells zeroT.cells 27))
                have RA := Lib.hid (D.out.new 27 zeroT.cells (wr.heap.size + 1 + 1) (by simp))
                replace Z := Lib.hid (Z.out.more (.cells zeroT.cells 27))
                replace D := Lib.hid (D.out.more (.cells zeroT.cells 27))
                refine hK.out _ _ ⟨D.out.hm, D.out.hx, D.out.hf⟩ (fun _ => ?_)
                clear hK K
                refine wpAnyH_ready (rs := [9]) (by kernel_rfl) (by simp) ?_
                refine AllReadyH.cons rfl (fun K hK => ?_) ?_
                · go_simp
                  refine (HW.out _ _ Z.out).mono ?_
                  rintro e wk ⟨rfl, b1⟩
                  replace D := Lib.hid (D.out.kept b1)
                  replace RA := Lib.hid (RA.out.kept b1)
                  replace RB := Lib.hid (RB.out.kept b1)
                  clear b1
                  refine hK.out _ _ ⟨D.out.hm, D.out.hx, D.out.hf⟩ (fun _ => ?_)
                  clear hK K
                  refine wpAnyH_take (i := 10) (v := .tuple #[.agg (sA (k + 1)).cells, .agg (Rp.cells ⟨0, 0, 0⟩)]) rfl (by kernel_rfl) (by kernel_rfl) (by kernel_rfl) (fun _ _ _ h => h) (Or.inl ⟨by rfl, (fun W _ => by go_simp)⟩) ⟨D.out.hm, D.out.hx, D.out.hf⟩ ?_
                  simp only [List.getElem_toArray, List.getElem_cons_succ, List.getElem_cons_zero, Act.put, List.setIfInBounds_toArray, List.set_cons_zero, List.set_cons_succ]
                  refine wpAnyH_take (i := 11) (v := .agg (sA (k + 1)).cells) rfl (by kernel_rfl) (by kernel_rfl) (by kernel_rfl) (fun _ _ _ h => h) (Or.inl ⟨by rfl, (fun W _ => by go_simp)⟩) ⟨D.out.hm, D.out.hx, D.out.hf⟩ ?_
                  simp only [List.getElem_toArray, List.getElem_cons_succ, List.getElem_cons_zero, Act.put, List.setIfInBounds_toArray, List.set_cons_zero, List.set_cons_succ]
                  refine wpAnyH_take (i := 12) (v := .agg (Rp.cells ⟨0, 0, 0⟩)) rfl (by kernel_rfl) (by kernel_rfl) (by kernel_rfl) (fun _ _ _ h => h) (Or.inl ⟨by rfl, (fun W _ => by go_simp)⟩) ⟨D.out.hm, D.out.hx, D.out.hf⟩ ?_
                  simp only [List.getElem_toArray, List.getElem_cons_succ, List.getElem_cons_zero, Act.put, List.setIfInBounds_toArray, List.set_cons_zero, List.set_cons_succ]
                  refine wpAnyH_ready (rs := [15]) (by kernel_rfl) (by simp) ?_
                  refine AllReadyH.cons rfl (fun K hK => ?_) AllReadyH.nil
                  refine step_row rfl 27 _ _ rfl _ _ rfl rfl 27 _ RA.out (size27 ON.out) (old27 zeroT_ok ON.out) (mt_all _) ?_
                  intro w1 hs on1; replace RA := Lib.hid hs; replace RB := Lib.hid (Has.only RB.out on1 (by have := NE.out; omega)); replace D := Lib.hid (D.out.only on1 LA.out); clear hs on1
                  refine hK.out _ _ ⟨D.out.hm, D.out.hx, D.out.hf⟩ (fun _ => ?_)
                  clear hK K
                  refine wpAnyH_ready (rs := [16]) (by kernel_rfl) (by simp) ?_
                  refine AllReadyH.cons rfl (fun K hK => ?_) AllReadyH.nil
                  refine step_row rfl 36 _ _ rfl _ _ rfl rfl 36 _ RB.out (size36 _) rfl (rp_all _) ?_
                  intro w2 hs on2; replace RB := Lib.hid hs; replace RA := Lib.hid (Has.only RA.out on2 (by have := NE.out; omega)); replace D := Lib.hid (D.out.only on2 LB.out); clear hs on2
                  refine hK.out _ _ ⟨D.out.hm, D.out.hx, D.out.hf⟩ (fun _ => ?_)
                  clear hK K
                  refine wpAnyH_done (by kernel_rfl) ?_ _
                  go_wp2_with fail
                  go_meet
                  exact ⟨_, _, rfl, rfl, ⟨D.out, ON.out, RA.out, RB.out, LA.out⟩⟩
                exact AllReadyH.nil
              exact AllReadyH.nil
            refine AllReadyH.cons rfl (fun K hK => ?_) ?_
            · go_simp
              have LA := Lib.hid (show r < wr.heap.size + 1 from Nat.lt_of_lt_of_eq D.out.hr.size (by simp))
              have NE := Lib.hid (Nat.ne_of_lt (show wr.heap.size < wr.heap.size + 1 from Nat.lt_of_lt_of_eq RB.out.size (by simp)))
              replace RB := Lib.hid (RB.out.more (.cells zeroT.cells 27))
              have RA := Lib.hid (D.out.new 27 zeroT.cells (wr.heap.size + 1) (by simp))
              replace D := Lib.hid (D.out.more (.cells zeroT.cells 27))
              refine hK.out _ _ ⟨D.out.hm, D.out.hx, D.out.hf⟩ (fun _ => ?_)
              clear hK K
              refine wpAnyH_ready (rs := [6]) (by kernel_rfl) (by simp) ?_
              refine AllReadyH.cons rfl (fun K hK => ?_) ?_
              · go_simp
                have Z := Lib.hid (D.out.new 5 (zeroBytes n) (wr.heap.size + 1 + 1) (by simp))
                replace RA := Lib.hid (RA.out.more (.cells (zeroBytes n) 5))
                replace RB := Lib.hid (RB.out.more (.cells (zeroBytes n) 5))
                replace D := Lib.hid (D.out.more (.cells (zeroBytes n) 5))
                refine hK.out _ _ ⟨D.out.hm, D.out.hx, D.out.hf⟩ (fun _ => ?_)
                clear hK K
                refine wpAnyH_take (i := 7) (v := .agg (Rq.cells ⟨2, (k : Int), some ⟨wr.heap.size + 1 + 1, 0, none⟩, n, n, List.replicate n 0⟩)) rfl (by kernel_rfl) (by kernel_rfl) (by kernel_rfl) (fun _ _ _ h => h) (yields_build (by rfl) 30 _ rfl _ (by kernel_rfl)) ⟨D.out.hm, D.out.hx, D.out.hf⟩ ?_
                simp only [List.getElem_toArray, List.getElem_cons_succ, List.getElem_cons_zero, Act.put, List.setIfInBounds_toArray, List.set_cons_zero, List.set_cons_succ]
                refine wpAnyH_ready (rs := [9]) (by kernel_rfl) (by simp) ?_
                refine AllReadyH.cons rfl (fun K hK => ?_) ?_
                · go_simp
                  refine (HW.out _ _ Z.out).mono ?_
                  rintro e wk ⟨rfl, b1⟩
                  replace D := Lib.hid (D.out.kept b1)
                  replace RA := Lib.hid (RA.out.kept b1)
                  replace RB := Lib.hid (RB.out.kept b1)
                  clear b1
                  refine hK.out _ _ ⟨D.out.hm, D.out.hx, D.out.hf⟩ (fun _ => ?_)
                  clear hK K
                  refine wpAnyH_take (i := 10) (v := .tuple #[.agg (sA (k + 1)).cells, .agg (Rp.cells ⟨0, 0, 0⟩)]) rfl (by kernel_rfl) (by kernel_rfl) (by kernel_rfl) (fun _ _ _ h => h) (Or.inl ⟨by rfl, (fun W _ => by go_simp)⟩) ⟨D.out.hm, D.out.hx, D.out.hf⟩ ?_
                  simp only [List.getElem_toArray, List.getElem_cons_succ, List.getElem_cons_zero, Act.put, List.setIfInBounds_toArray, List.set_cons_zero, List.set_cons_succ]
                  refine wpAnyH_take (i := 11) (v := .agg (sA (k + 1)).cells) rfl (by kernel_rfl) (by kernel_rfl) (by kernel_rfl) (fun _ _ _ h => h) (Or.inl ⟨by rfl, (fun W _ => by go_simp)⟩) ⟨D.out.hm, D.out.hx, D.out.hf⟩ ?_
                  simp only [List.getElem_toArray, List.getElem_cons_succ, List.getElem_cons_zero, Act.put, List.setIfInBounds_toArray, List.set_cons_zero, List.set_cons_succ]
                  refine wpAnyH_take (i := 12) (v := .agg (Rp.cells ⟨0, 0, 0⟩)) rfl (by kernel_rfl) (by kernel_rfl) (by kernel_rfl) (fun _ _ _ h => h) (Or.inl ⟨by rfl, (fun W _ => by go_simp)⟩) ⟨D.out.hm, D.out.hx, D.out.hf⟩ ?_
                  simp only [List.getElem_toArray, List.getElem_cons_succ, List.getElem_cons_zero, Act.put, List.setIfInBounds_toArray, List.set_cons_zero, List.set_cons_succ]
                  refine wpAnyH_ready (rs := [15]) (by kernel_rfl) (by simp) ?_
                  refine AllReadyH.cons rfl (fun K hK => ?_) AllReadyH.nil
                  refine step_row rfl 27 _ _ rfl _ _ rfl rfl 27 _ RA.out (size27 ON.out) (old27 zeroT_ok ON.out) (mt_all _) ?_
                  intro w1 hs on1; replace RA := Lib.hid hs; replace RB := Lib.hid (Has.only RB.out on1 (by have := NE.out; omega)); replace D := Lib.hid (D.out.only on1 LA.out); clear hs on1
                  refine hK.out _ _ ⟨D.out.hm, D.out.hx, D.out.hf⟩ (fun _ => ?_)
                  clear hK K
                  refine wpAnyH_ready (rs := [16]) (by kernel_rfl) (by simp) ?_
                  refine AllReadyH.cons rfl (fun K hK => ?_) AllReadyH.nil
                  refine step_row rfl 36 _ _ rfl _ _ rfl rfl 36 _ RB.out (size36 _) rfl (rp_all _) ?_
                  intro w2 hs on2; replace RB := Lib.hid hs; replace RA := Lib.hid (Has.only RA.out on2 (by have := NE.out; omega)); replace D := Lib.hid (D.out.only on2 LB.out); clear hs on2
                  refine hK.out _ _ ⟨D.out.hm, D.out.hx, D.out.hf⟩ (fun _ => ?_)
                  clear hK K
                  refine wpAnyH_done (by kernel_rfl) ?_ _
                  go_wp2_with fail
                  go_meet
                  exact ⟨_, _, rfl, rfl, ⟨D.out, ON.out, RA.out, RB.out, LA.out⟩⟩
                exact AllReadyH.nil
              exact AllReadyH.nil
            exact AllReadyH.nil
          refine AllReadyH.cons rfl (fun K hK => ?_) ?_
          · go_simp
            have LA := Lib.hid (show r < wr.heap.size + 1 from Nat.lt_of_lt_of_eq D.out.hr.size (by simp))
            have NE := Lib.hid (Nat.ne_of_lt (show wr.heap.size < wr.heap.size + 1 from Nat.lt_of_lt_of_eq RB.out.size (by simp)))
            replace RB := Lib.hid (RB.out.more (.cells zeroT.cells 27))
            have RA := Lib.hid (D.out.new 27 zeroT.cells (wr.heap.size + 1) (by simp))
            replace D := Lib.hid (D.out.more (.cells zeroT.cells 27))
            refine hK.out _ _ ⟨D.out.hm, D.out.hx, D.out.hf⟩ (fun _ => ?_)
            clear hK K
            refine wpAnyH_ready (rs := [5]) (by kernel_rfl) (by simp) ?_
            refine AllReadyH.cons rfl (fun K hK => ?_) ?_
            · go_simp
              refine (HN.out _).mono ?_
              rintro e wy ⟨rfl, rfl⟩
              refine hK.out _ _ ⟨D.out.hm, D.out.hx, D.out.hf⟩ (fun _ => ?_)
              clear hK K
              refine wpAnyH_ready (rs := [6]) (by kernel_rfl) (by simp) ?_
              refine AllReadyH.cons rfl (fun K hK => ?_) ?_
              · go_simp
                have Z := Lib.hid (D.out.new 5 (zeroBytes n) (wr.heap.size + 1 + 1) (by simp))
                replace RA := Lib.hid (RA.out.more (.cells (zeroBytes n) 5))
                replace RB := Lib.hid (RB.out.more (.cells (zeroBytes n) 5))
                replace D := Lib.hid (D.out.more (.cells (zeroBytes n) 5))
                refine hK.out _ _ ⟨D.out.hm, D.out.hx, D.out.hf⟩ (fun _ => ?_)
                clear hK K
                refine wpAnyH_take (i := 7) (v := .agg (Rq.cells ⟨2, (k : Int), some ⟨wr.heap.size + 1 + 1, 0, none⟩, n, n, List.replicate n 0⟩)) rfl (by kernel_rfl) (by kernel_rfl) (by kernel_rfl) (fun _ _ _ h => h) (yields_build (by rfl) 30 _ rfl _ (by kernel_rfl)) ⟨D.out.hm, D.out.hx, D.out.hf⟩ ?_
                simp only [List.getElem_toArray, List.getElem_cons_succ, List.getElem_cons_zero, Act.put, List.setIfInBounds_toArray, List.set_cons_zero, List.set_cons_succ]
                refine wpAnyH_ready (rs := [9]) (by kernel_rfl) (by simp) ?_
                refine AllReadyH.cons rfl (fun K hK => ?_) ?_
                · go_simp
                  refine (HW.out _ _ Z.out).mono ?_
                  rintro e wk ⟨rfl, b1⟩
                  replace D := Lib.hid (D.out.kept b1)
                  replace RA := Lib.hid (RA.out.kept b1)
                  replace RB := Lib.hid (RB.out.kept b1)
                  clear b1
                  refine hK.out _ _ ⟨D.out.hm, D.out.hx, D.out.hf⟩ (fun _ => ?_)
                  clear hK K
                  refine wpAnyH_take (i := 10) (v := .tuple #[.agg (sA (k + 1)).cells, .agg (Rp.cells ⟨0, 0, 0⟩)]) rfl (by kernel_rfl) (by kernel_rfl) (by kernel_rfl) (fun _ _ _ h => h) (Or.inl ⟨by rfl, (fun W _ => by go_simp)⟩) ⟨D.out.hm, D.out.hx, D.out.hf⟩ ?_
                  simp only [List.getElem_toArray, List.getElem_cons_succ, List.getElem_cons_zero, Act.put, List.setIfInBounds_toArray, List.set_cons_zero, List.set_cons_succ]
                  refine wpAnyH_take (i := 11) (v := .agg (sA (k + 1)).cells) rfl (by kernel_rfl) (by kernel_rfl) (by kernel_rfl) (fun _ _ _ h => h) (Or.inl ⟨by rfl, (fun W _ => by go_simp)⟩) ⟨D.out.hm, D.out.hx, D.out.hf⟩ ?_
                  simp only [List.getElem_toArray, List.getElem_cons_succ, List.getElem_cons_zero, Act.put, List.setIfInBounds_toArray, List.set_cons_zero, List.set_cons_succ]
                  refine wpAnyH_take (i := 12) (v := .agg (Rp.cells ⟨0, 0, 0⟩)) rfl (by kernel_rfl) (by kernel_rfl) (by kernel_rfl) (fun _ _ _ h => h) (Or.inl ⟨by rfl, (fun W _ => by go_simp)⟩) ⟨D.out.hm, D.out.hx, D.out.hf⟩ ?_
                  simp only [List.getElem_toArray, List.getElem_cons_succ, List.getElem_cons_zero, Act.put, List.setIfInBounds_toArray, List.set_cons_zero, List.set_cons_succ]
                  refine wpAnyH_ready (rs := [15]) (by kernel_rfl) (by simp) ?_
                  refine AllReadyH.cons rfl (fun K hK => ?_) AllReadyH.nil
                  refine step_row rfl 27 _ _ rfl _ _ rfl rfl 27 _ RA.out (size27 ON.out) (old27 zeroT_ok ON.out) (mt_all _) ?_
                  intro w1 hs on1; replace RA := Lib.hid hs; replace RB := Lib.hid (Has.only RB.out on1 (by have := NE.out; omega)); replace D := Lib.hid (D.out.only on1 LA.out); clear hs on1
                  refine hK.out _ _ ⟨D.out.hm, D.out.hx, D.out.hf⟩ (fun _ => ?_)
                  clear hK K
                  refine wpAnyH_ready (rs := [16]) (by kernel_rfl) (by simp) ?_
                  refine AllReadyH.cons rfl (fun K hK => ?_) AllReadyH.nil
                  refine step_row rfl 36 _ _ rfl _ _ rfl rfl 36 _ RB.out (size36 _) rfl (rp_all _) ?_
                  intro w2 hs on2; replace RB := Lib.hid hs; replace RA := Lib.hid (Has.only RA.out on2 (by have := NE.out; omega)); replace D := Lib.hid (D.out.only on2 LB.out); clear hs on2
                  refine hK.out _ _ ⟨D.out.hm, D.out.hx, D.out.hf⟩ (fun _ => ?_)
                  clear hK K
                  refine wpAnyH_done (by kernel_rfl) ?_ _
                  go_wp2_with fail
                  go_meet
                  exact ⟨_, _, rfl, rfl, ⟨D.out, ON.out, RA.out, RB.out, LA.out⟩⟩
                exact AllReadyH.nil
              exact AllReadyH.nil
            exact AllReadyH.nil
          exact AllReadyH.nil
        exact AllReadyH.nil
      case rest =>
        obtain ⟨p', u, rfl, rfl, hA⟩ := hcut
        replace D := Lib.hid hA.d
        have RA := Lib.hid hA.a
        have RB := Lib.hid hA.b
        clear hA
        go_wp2_with (first
          | (refine wpList_ld 34 _ rfl _ _ (ld34' (RB.out.at 0)) rfl rfl ?_)
          | (refine wpList_ld 27 _ rfl _ _ (ld27 RA.out ON.out) rfl rfl ?_)
          | (refine wpList_row rfl 27 _ _ rfl w.heap.size _ rfl rfl 27 _ D.out.hm (size27 ON.out) (old27 D.out.ok ON.out) (mt_all _) ?_; intro w1 hs on; replace D := Lib.hid (D.out.setm ON.out hs on); clear hs on))
        go_roundw
        case rel => exact ⟨k + 1, by go_num, by omega, D.out⟩
        case measure => simp [intOf]; omega
    · obtain rfl : k = c := by omega
      have dkc : decide ((k : Int) < (k : Int)) = false := decide_eq_false (by omega)
      have U3 := Lib.hid trivial
      have U4 := Lib.hid trivial
      have U6 := Lib.hid trivial
      have HV := Lib.hid WAY.out.ver
      have HC := Lib.hid WAY.out.com
      have HE := Lib.hid WAY.out.ear
      have OV := Lib.hid WAY.out.okV
      have OB0 := Lib.hid (WAY.out.okB 0)
      go_wp2_with (first
        | (refine wpList_ld 27 _ rfl _ _ (ld27 D.out.hm D.out.ok) rfl rfl ?_)
        | (refine wpList_bld 30 _ rfl (Rq.cells ⟨3, 0, none, 0, 0, []⟩) (by kernel_rfl) rfl ?_; clear U3)
        | (refine wpList_bld 30 _ rfl (Rq.cells ⟨4, 0, none, 0, 0, []⟩) (by kernel_rfl) rfl ?_; clear U4)
        | (refine wpList_bld 30 _ rfl (Rq.cells ⟨6, 0, none, 0, 0, []⟩) (by kernel_rfl) rfl ?_; clear U6)
        | (refine wpList_ld 32 _ rfl _ _ (seen_f D.out.hf D.out.okf).all rfl rfl ?_)
        | (go_at_call 10; (with_reducible refine (HV.out _).mono ?_); rintro e w1 ⟨rfl, b1⟩; replace D := Lib.hid (D.out.kept b1); clear b1 HV)
        | (refine wpList_row rfl 27 _ _ rfl w.heap.size _ rfl rfl 27 _ D.out.hm (size27 OV.out) (old27 D.out.ok OV.out) (mt_all _) ?_; intro w1 hs on; replace D := Lib.hid (D.out.setm OV.out hs on); clear hs on)
        | (refine wpList_row rfl 36 _ _ rfl r _ rfl rfl 36 _ D.out.hr (size36 _) rfl (rp_all _) ?_; intro w1 hs on; replace D := Lib.hid (D.out.setr hs on); clear hs on)
        | (go_at_call 10; (with_reducible refine (HC.out _).mono ?_); rintro e wc ⟨rfl, b1⟩; replace D := Lib.hid (D.out.kept b1); have LN := Lib.hid D.out.hr.size; have NN := Lib.hid (nz_new wc); replace D := Lib.hid D.out.two; clear b1 HC)
        | (refine wpList_row rfl 27 _ _ rfl wc.heap.size _ rfl rfl 27 _ NN.out.hm (size27 OB0.out) (old27 NN.out.ok OB0.out) (mt_all _) ?_; intro w1 hs on; replace NN := Lib.hid (NN.out.setm OB0.out hs on); replace D := Lib.hid (D.out.only on LN.out); clear hs on)
        | (refine wpList_row rfl 36 _ _ rfl (wc.heap.size + 1) _ rfl rfl 36 _ NN.out.hr (size36 _) rfl (rp_all _) ?_; intro w1 hs on; replace NN := Lib.hid (NN.out.setr hs on); replace D := Lib.hid (D.out.only on (by have := LN.out; omega)); clear hs on)
        | (refine wpList_ld 27 _ rfl _ _ (ld27 NN.out.hm NN.out.ok) rfl rfl ?_)
        | (go_at_call 10; (with_reducible refine (HE.out _).mono ?_); rintro e we ⟨rfl, b1⟩; replace D := Lib.hid (D.out.kept b1); replace NN := Lib.hid (NN.out.kept b1); have LE := Lib.hid D.out.hr.size; have LM := Lib.hid NN.out.hr.size; have EE := Lib.hid (nz_new we); replace NN := Lib.hid (NN.out.kept (((Below.refl _ _).alloc (Nat.le_refl _) (.cells zeroT.cells 27)).alloc (by simp) (.cells zeroR.cells 36))); replace D := Lib.hid D.out.two; clear b1 HE)
        | (refine wpList_row rfl 27 _ _ rfl we.heap.size _ rfl rfl 27 _ EE.out.hm (size27 OB0.out) (old27 EE.out.ok OB0.out) (mt_all _) ?_; intro w1 hs on; replace EE := Lib.hid (EE.out.setm OB0.out hs on); replace D := Lib.hid (D.out.only on LE.out); replace NN := Lib.hid (NN.out.by on (by have := LM.out; omega) (by have := LM.out; omega)); clear hs on)
        | (refine wpList_row rfl 36 _ _ rfl (we.heap.size + 1) _ rfl rfl 36 _ EE.out.hr (size36 _) rfl (rp_all _) ?_; intro w1 hs on; replace EE := Lib.hid (EE.out.setr hs on); replace D := Lib.hid (D.out.only on (by have := LE.out; omega)); replace NN := Lib.hid (NN.out.by on (by have := LM.out; omega) (by have := LM.out; omega)); clear hs on)
        | (refine wpList_ld 34 _ rfl _ _ (ld34' (D.out.hr.at 0)) rfl rfl ?_)
        | (refine wpList_ld 34 _ rfl _ _ (ld34' (NN.out.hr.at 0)) rfl rfl ?_)
        | (refine wpList_ld 34 _ rfl _ _ (ld34' (EE.out.hr.at 0)) rfl rfl ?_)
        | (refine wpList_ld 27 _ rfl _ _ (ld27 EE.out.hm EE.out.ok) rfl rfl ?_)
        | (refine wpList_neT _ _ rfl (sB 0) (sB 0) rfl rfl OB0.out rfl rfl ?_)
        | (refine wpList_row rfl 27 _ _ rfl w.heap.size _ rfl rfl 27 _ D.out.hm (size27 OB0.out) (old27 D.out.ok OB0.out) (mt_all _) ?_; intro w1 hs on; replace D := Lib.hid (D.out.setm OB0.out hs on); clear hs on))
      clear NN EE LN LE LM OV
      go_loopw [24, 25, 26] (Booted w p g r sB ⟨0, h0, h1, l, 0, com, gt, tr⟩ x nb) (fun i _ _ _ => nb - (intOf i).toNat)
      case atStart => exact ⟨0, rfl, Nat.zero_le _, D.out⟩
      case round =>
        clear D
        obtain ⟨q, rfl, hq, hD⟩ := hrel
        have D := Lib.hid hD
        clear hD
        by_cases hqn : q < nb
        · have dqn : decide ((q : Int) < (nb : Int)) = true := decide_eq_true (by omega)
          have hB0 := WAY.out.boo q
          have OB := Lib.hid (WAY.out.okB (q + 1))
          by_cases q2 : q < 2
          · have dq2 : decide ((q : Int) < 2) = true := decide_eq_true (by omega)
            have HB : Hid (∀ B, Calls Tryd.prog 10 #[.agg (sB q).cells, .agg (Rq.cells ⟨5, 0, none, 0, 0, []⟩), .agg (fOf x).cells, .int .i64 6] B (Does (sB (q + 1), ⟨0, 1, 0⟩) B)) := Lib.hid (fun B => by have := hB0 B; rwa [if_pos (show (q : Int) < 2 by omega)] at this)
            clear hB0
            go_wp2_with (first
              | (refine wpList_ld 27 _ rfl _ _ (ld27 D.out.hm D.out.ok) rfl rfl ?_)
              | (refine wpList_bld 30 _ rfl (Rq.cells ⟨5, 0, none, 0, 0, []⟩) (by kernel_rfl) rfl ?_)
              | (refine wpList_ld 32 _ rfl _ _ (seen_f D.out.hf D.out.okf).all rfl rfl ?_)
              | (go_at_call 10; (with_reducible refine (HB.out _).mono ?_); rintro e wb ⟨rfl, b1⟩; replace D := Lib.hid (D.out.kept b1); have LR := Lib.hid D.out.hr.size; have RR := Lib.hid (nz_new wb); replace D := Lib.hid D.out.two; clear b1 HB)
              | (refine wpList_row rfl 27 _ _ rfl wb.heap.size _ rfl rfl 27 _ RR.out.hm (size27 OB.out) (old27 RR.out.ok OB.out) (mt_all _) ?_; intro w1 hs on; replace RR := Lib.hid (RR.out.setm OB.out hs on); replace D := Lib.hid (D.out.only on LR.out); clear hs on)
              | (refine wpList_row rfl 36 _ _ rfl (wb.heap.size + 1) _ rfl rfl 36 _ RR.out.hr (size36 _) rfl (rp_all _) ?_; intro w1 hs on; replace RR := Lib.hid (RR.out.setr hs on); replace D := Lib.hid (D.out.only on (by have := LR.out; omega)); clear hs on)
              | (refine wpList_ld 3 _ rfl _ _ (ld3 (RR.out.hr.at 1)) rfl rfl ?_)
              | (refine wpList_ld 3 _ rfl _ _ (ld3 (seen_of D.out.hw D.out.okm).act) rfl rfl ?_)
              | (refine wpList_ld 27 _ rfl _ _ (ld27 RR.out.hm RR.out.ok) rfl rfl ?_)
              | (refine wpList_row rfl 27 _ _ rfl w.heap.size _ rfl rfl 27 _ D.out.hm (size27 OB.out) (old27 D.out.ok OB.out) (mt_all _) ?_; intro w1 hs on; replace D := Lib.hid (D.out.setm OB.out hs on); clear hs on))
            go_roundw
            case rel => exact ⟨q + 1, by go_num, by omega, D.out⟩
            case measure => simp [intOf]; omega
          · have dq2 : decide ((q : Int) < 2) = false := decide_eq_false (by omega)
            have HB : Hid (∀ B, Calls Tryd.prog 10 #[.agg (sB q).cells, .agg (Rq.cells ⟨5, 0, none, 0, 0, []⟩), .agg (fOf x).cells, .int .i64 6] B (Does (sB (q + 1), ⟨0, 0, 0⟩) B)) := Lib.hid (fun B => by have := hB0 B; rwa [if_neg (show ¬ (q : Int) < 2 by omega)] at this)
            clear hB0
            go_wp2_with (first
              | (refine wpList_ld 27 _ rfl _ _ (ld27 D.out.hm D.out.ok) rfl rfl ?_)
              | (refine wpList_bld 30 _ rfl (Rq.cells ⟨5, 0, none, 0, 0, []⟩) (by kernel_rfl) rfl ?_)
              | (refine wpList_ld 32 _ rfl _ _ (seen_f D.out.hf D.out.okf).all rfl rfl ?_)
              | (go_at_call 10; (with_reducible refine (HB.out _).mono ?_); rintro e wb ⟨rfl, b1⟩; replace D := Lib.hid (D.out.kept b1); have LR := Lib.hid D.out.hr.size; have RR := Lib.hid (nz_new wb); replace D := Lib.hid D.out.two; clear b1 HB)
              | (refine wpList_row rfl 27 _ _ rfl wb.heap.size _ rfl rfl 27 _ RR.out.hm (size27 OB.out) (old27 RR.out.ok OB.out) (mt_all _) ?_; intro w1 hs on; replace RR := Lib.hid (RR.out.setm OB.out hs on); replace D := Lib.hid (D.out.only on LR.out); clear hs on)
              | (refine wpList_row rfl 36 _ _ rfl (wb.heap.size + 1) _ rfl rfl 36 _ RR.out.hr (size36 _) rfl (rp_all _) ?_; intro w1 hs on; replace RR := Lib.hid (RR.out.setr hs on); replace D := Lib.hid (D.out.only on (by have := LR.out; omega)); clear hs on)
              | (refine wpList_ld 3 _ rfl _ _ (ld3 (RR.out.hr.at 1)) rfl rfl ?_)
              | (refine wpList_ld 3 _ rfl _ _ (ld3 (seen_of D.out.hw D.out.okm).act) rfl rfl ?_)
              | (refine wpList_ld 27 _ rfl _ _ (ld27 RR.out.hm RR.out.ok) rfl rfl ?_)
              | (refine wpList_row rfl 27 _ _ rfl w.heap.size _ rfl rfl 27 _ D.out.hm (size27 OB.out) (old27 D.out.ok OB.out) (mt_all _) ?_; intro w1 hs on; replace D := Lib.hid (D.out.setm OB.out hs on); clear hs on))
            go_roundw
            case rel => exact ⟨q + 1, by go_num, by omega, D.out⟩
            case measure => simp [intOf]; omega
        · obtain rfl : q = nb := by omega
          have dqn : decide ((q : Int) < (q : Int)) = false := decide_eq_false (by omega)
          by_cases q3 : 2 < q
          · have dq3 : decide (2 < (q : Int)) = true := decide_eq_true (by omega)
            rw [WAY.out.last q (by omega)] at D
            go_wp2_with fail
            refine wp_region_held_drew (S := (fun W => Has W w.heap.size 27 (Mt.cells ⟨0, h0, zeroI, l, 0, zeroI, 0, 0⟩) ∧ Has W p 27 (Mt.cells ⟨0, h0, h1, l, 0, com, gt, tr⟩))) (by kernel_rfl) ⟨D.out.drew.hm, D.out.drew.hw⟩ ?_
            intro _
            replace D := Lib.hid D.out.drew
            refine wpAnyH_take (i := 0) (v := .pointer (some ⟨w.heap.size, 70, none⟩)) rfl (by kernel_rfl) (by kernel_rfl) (by kernel_rfl) (fun _ _ _ h => h) (Or.inl ⟨by rfl, (fun W _ => by go_simp)⟩) ⟨D.out.hm, D.out.hw⟩ ?_
            simp only [List.getElem_toArray, List.getElem_cons_succ, List.getElem_cons_zero, Act.put, List.setIfInBounds_toArray, List.set_cons_zero, List.set_cons_succ]
            refine wpAnyH_take (i := 1) (v := .int .i64 0) rfl (by kernel_rfl) (by kernel_rfl) (by kernel_rfl) (fun _ _ _ h => h) (yields_ld (by rfl) 3 (.tmp 197) rfl _ _ (fun W hW => ld3 (seen_of hW.1 D.out.ok).phase) rfl) ⟨D.out.hm, D.out.hw⟩ ?_
            simp only [List.getElem_toArray, List.getElem_cons_succ, List.getElem_cons_zero, Act.put, List.setIfInBounds_toArray, List.set_cons_zero, List.set_cons_succ]
            refine wpAnyH_take (i := 2) (v := .bool true) rfl (by kernel_rfl) (by kernel_rfl) (by kernel_rfl) (fun _ _ _ h => h) (Or.inl ⟨by rfl, (fun W _ => by go_simp)⟩) ⟨D.out.hm, D.out.hw⟩ ?_
            simp only [List.getElem_toArray, List.getElem_cons_succ, List.getElem_cons_zero, Act.put, List.setIfInBounds_toArray, List.set_cons_zero, List.set_cons_succ]
            refine wpAnyH_take (i := 3) (v := .bool true) rfl (by kernel_rfl) (by kernel_rfl) (by kernel_rfl) (fun _ _ _ h => h) (Or.inl ⟨by rfl, (fun W _ => by go_simp)⟩) ⟨D.out.hm, D.out.hw⟩ ?_
            simp only [List.getElem_toArray, List.getElem_cons_succ, List.getElem_cons_zero, Act.put, List.setIfInBounds_toArray, List.set_cons_zero, List.set_cons_succ]
            refine wpAnyH_take (i := 4) (v := .pointer (some ⟨w.heap.size, 0, none⟩)) rfl (by kernel_rfl) (by kernel_rfl) (by kernel_rfl) (fun _ _ _ h => h) (Or.inl ⟨by rfl, (fun W _ => by go_simp)⟩) ⟨D.out.hm, D.out.hw⟩ ?_
            simp only [List.getElem_toArray, List.getElem_cons_succ, List.getElem_cons_zero, Act.put, List.setIfInBounds_toArray, List.set_cons_zero, List.set_cons_succ]
            refine wpAnyH_take (i := 5) (v := .int .i64 0) rfl (by kernel_rfl) (by kernel_rfl) (by kernel_rfl) (fun _ _ _ h => h) (yields_ld (by rfl) 3 (.tmp 201) rfl _ _ (fun W hW => ld3 (seen_of hW.1 D.out.ok).act) rfl) ⟨D.out.hm, D.out.hw⟩ ?_
            simp only [List.getElem_toArray, List.getElem_cons_succ, List.getElem_cons_zero, Act.put, List.setIfInBounds_toArray, List.set_cons_zero, List.set_cons_succ]
            refine wpAnyH_take (i := 6) (v := .pointer (some ⟨p, 0, none⟩)) rfl (by kernel_rfl) (by kernel_rfl) (by kernel_rfl) (fun _ _ _ h => h) (Or.inl ⟨by rfl, (fun W _ => by go_simp)⟩) ⟨D.out.hm, D.out.hw⟩ ?_
            simp only [List.getElem_toArray, List.getElem_cons_succ, List.getElem_cons_zero, Act.put, List.setIfInBounds_toArray, List.set_cons_zero, List.set_cons_succ]
            refine wpAnyH_take (i := 7) (v := .int .i64 0) rfl (by kernel_rfl) (by kernel_rfl) (by kernel_rfl) (fun _ _ _ h => h) (yields_ld (by rfl) 3 (.tmp 203) rfl _ _ (fun W hW => ld3 (seen_of hW.2 D.out.okm).act) rfl) ⟨D.out.hm, D.out.hw⟩ ?_
            simp only [List.getElem_toArray, List.getElem_cons_succ, List.getElem_cons_zero, Act.put, List.setIfInBounds_toArray, List.set_cons_zero, List.set_cons_succ]
            refine wpAnyH_take (i := 8) (v := .bool true) rfl (by kernel_rfl) (by kernel_rfl) (by kernel_rfl) (fun _ _ _ h => h) (Or.inl ⟨by rfl, (fun W _ => by go_simp)⟩) ⟨D.out.hm, D.out.hw⟩ ?_
            simp only [List.getElem_toArray, List.getElem_cons_succ, List.getElem_cons_zero, Act.put, List.setIfInBounds_toArray, List.set_cons_zero, List.set_cons_succ]
            refine wpAnyH_take (i := 9) (v := .bool true) rfl (by kernel_rfl) (by kernel_rfl) (by kernel_rfl) (fun _ _ _ h => h) (Or.inl ⟨by rfl, (fun W _ => by go_simp)⟩) ⟨D.out.hm, D.out.hw⟩ ?_
            simp only [List.getElem_toArray, List.getElem_cons_succ, List.getElem_cons_zero, Act.put, List.setIfInBounds_toArray, List.set_cons_zero, List.set_cons_succ]
            refine wpAnyH_take (i := 10) (v := .bool true) rfl (by kernel_rfl) (by kernel_rfl) (by kernel_rfl) (fun _ _ _ h => h) (Or.inl ⟨by rfl, (fun W _ => by go_simp)⟩) ⟨D.out.hm, D.out.hw⟩ ?_
            simp only [List.getElem_toArray, List.getElem_cons_succ, List.getElem_cons_zero, Act.put, List.setIfInBounds_toArray, List.set_cons_zero, List.set_cons_succ]
            refine wpAnyH_take (i := 11) (v := .pointer (some ⟨p, 0, none⟩)) rfl (by kernel_rfl) (by kernel_rfl) (by kernel_rfl) (fun _ _ _ h => h) (Or.inl ⟨by rfl, (fun W _ => by go_simp)⟩) ⟨D.out.hm, D.out.hw⟩ ?_
            simp only [List.getElem_toArray, List.getElem_cons_succ, List.getElem_cons_zero, Act.put, List.setIfInBounds_toArray, List.set_cons_zero, List.set_cons_succ]
            refine wpAnyH_take (i := 12) (v := .int .i64 0) rfl (by kernel_rfl) (by kernel_rfl) (by kernel_rfl) (fun _ _ _ h => h) (yields_ld (by rfl) 3 (.tmp 208) rfl _ _ (fun W hW => ld3 (seen_of hW.2 D.out.okm).act) rfl) ⟨D.out.hm, D.out.hw⟩ ?_
            simp only [List.getElem_toArray, List.getElem_cons_succ, List.getElem_cons_zero, Act.put, List.setIfInBounds_toArray, List.set_cons_zero, List.set_cons_succ]
            refine wpAnyH_take (i := 13) (v := .pointer (some ⟨w.heap.size, 1, none⟩)) rfl (by kernel_rfl) (by kernel_rfl) (by kernel_rfl) (fun _ _ _ h => h) (Or.inl ⟨by rfl, (fun W _ => by go_simp)⟩) ⟨D.out.hm, D.out.hw⟩ ?_
            simp only [List.getElem_toArray, List.getElem_cons_succ, List.getElem_cons_zero, Act.put, List.setIfInBounds_toArray, List.set_cons_zero, List.set_cons_succ]
            refine wpAnyH_take (i := 14) (v := .pointer (some ⟨w.heap.size, 1, none⟩)) rfl (by kernel_rfl) (by kernel_rfl) (by kernel_rfl) (fun _ _ _ h => h) (Or.inl ⟨by rfl, (fun W _ => by go_simp)⟩) ⟨D.out.hm, D.out.hw⟩ ?_
            simp only [List.getElem_toArray, List.getElem_cons_succ, List.getElem_cons_zero, Act.put, List.setIfInBounds_toArray, List.set_cons_zero, List.set_cons_succ]
            refine wpAnyH_take (i := 15) (v := .agg h0.cells) rfl (by kernel_rfl) (by kernel_rfl) (by kernel_rfl) (fun _ _ _ h => h) (yields_ld (by rfl) 24 (.tmp 211) rfl _ _ (fun W hW => (seen_of hW.1 D.out.ok).l0) rfl) ⟨D.out.hm, D.out.hw⟩ ?_
            simp only [List.getElem_toArray, List.getElem_cons_succ, List.getElem_cons_zero, Act.put, List.setIfInBounds_toArray, List.set_cons_zero, List.set_cons_succ]
            refine wpAnyH_take (i := 16) (v := .pointer (some ⟨p, 0, none⟩)) rfl (by kernel_rfl) (by kernel_rfl) (by kernel_rfl) (fun _ _ _ h => h) (Or.inl ⟨by rfl, (fun W _ => by go_simp)⟩) ⟨D.out.hm, D.out.hw⟩ ?_
            simp only [List.getElem_toArray, List.getElem_cons_succ, List.getElem_cons_zero, Act.put, List.setIfInBounds_toArray, List.set_cons_zero, List.set_cons_succ]
            refine wpAnyH_take (i := 17) (v := .int .i64 0) rfl (by kernel_rfl) (by kernel_rfl) (by kernel_rfl) (fun _ _ _ h => h) (yields_ld (by rfl) 3 (.tmp 213) rfl _ _ (fun W hW => ld3 (seen_of hW.2 D.out.okm).act) rfl) ⟨D.out.hm, D.out.hw⟩ ?_
            simp only [List.getElem_toArray, List.getElem_cons_succ, List.getElem_cons_zero, Act.put, List.setIfInBounds_toArray, List.set_cons_zero, List.set_cons_succ]
            refine wpAnyH_take (i := 18) (v := .pointer (some ⟨p, 1, none⟩)) rfl (by kernel_rfl) (by kernel_rfl) (by kernel_rfl) (fun _ _ _ h => h) (Or.inl ⟨by rfl, (fun W _ => by go_simp)⟩) ⟨D.out.hm, D.out.hw⟩ ?_
            simp only [List.getElem_toArray, List.getElem_cons_succ, List.getElem_cons_zero, Act.put, List.setIfInBounds_toArray, List.set_cons_zero, List.set_cons_succ]
            refine wpAnyH_take (i := 19) (v := .pointer (some ⟨p, 1, none⟩)) rfl (by kernel_rfl) (by kernel_rfl) (by kernel_rfl) (fun _ _ _ h => h) (Or.inl ⟨by rfl, (fun W _ => by go_simp)⟩) ⟨D.out.hm, D.out.hw⟩ ?_
            simp only [List.getElem_toArray, List.getElem_cons_succ, List.getElem_cons_zero, Act.put, List.setIfInBounds_toArray, List.set_cons_zero, List.set_cons_succ]
            refine wpAnyH_take (i := 20) (v := .agg h0.cells) rfl (by kernel_rfl) (by kernel_rfl) (by kernel_rfl) (fun _ _ _ h => h) (yields_ld (by rfl) 24 (.tmp 216) rfl _ _ (fun W hW => (seen_of hW.2 D.out.okm).l0) rfl) ⟨D.out.hm, D.out.hw⟩ ?_
            simp only [List.getElem_toArray, List.getElem_cons_succ, List.getElem_cons_zero, Act.put, List.setIfInBounds_toArray, List.set_cons_zero, List.set_cons_succ]
            refine wpAnyH_take (i := 21) (v := .bool true) rfl (by kernel_rfl) (by kernel_rfl) (by kernel_rfl) (fun _ _ _ h => h) (yields_eq24 (by rfl) (.tmp 212) (.tmp 217) rfl h0 rfl rfl D.out.okm.h0) ⟨D.out.hm, D.out.hw⟩ ?_
            simp only [List.getElem_toArray, List.getElem_cons_succ, List.getElem_cons_zero, Act.put, List.setIfInBounds_toArray, List.set_cons_zero, List.set_cons_succ]
            refine wpAnyH_take (i := 22) (v := .bool true) rfl (by kernel_rfl) (by kernel_rfl) (by kernel_rfl) (fun _ _ _ h => h) (Or.inl ⟨by rfl, (fun W _ => by go_simp)⟩) ⟨D.out.hm, D.out.hw⟩ ?_
            simp only [List.getElem_toArray, List.getElem_cons_succ, List.getElem_cons_zero, Act.put, List.setIfInBounds_toArray, List.set_cons_zero, List.set_cons_succ]
            refine wpAnyH_take (i := 23) (v := .bool true) rfl (by kernel_rfl) (by kernel_rfl) (by kernel_rfl) (fun _ _ _ h => h) (Or.inl ⟨by rfl, (fun W _ => by go_simp)⟩) ⟨D.out.hm, D.out.hw⟩ ?_
            simp only [List.getElem_toArray, List.getElem_cons_succ, List.getElem_cons_zero, Act.put, List.setIfInBounds_toArray, List.set_cons_zero, List.set_cons_succ]
            refine wpAnyH_take (i := 24) (v := .pointer (some ⟨p, 0, none⟩)) rfl (by kernel_rfl) (by kernel_rfl) (by kernel_rfl) (fun _ _ _ h => h) (Or.inl ⟨by rfl, (fun W _ => by go_simp)⟩) ⟨D.out.hm, D.out.hw⟩ ?_
            simp only [List.getElem_toArray, List.getElem_cons_succ, List.getElem_cons_zero, Act.put, List.setIfInBounds_toArray, List.set_cons_zero, List.set_cons_succ]
            refine wpAnyH_take (i := 25) (v := .int .i64 0) rfl (by kernel_rfl) (by kernel_rfl) (by kernel_rfl) (fun _ _ _ h => h) (yields_ld (by rfl) 3 (.tmp 221) rfl _ _ (fun W hW => ld3 (seen_of hW.2 D.out.okm).act) rfl) ⟨D.out.hm, D.out.hw⟩ ?_
            simp only [List.getElem_toArray, List.getElem_cons_succ, List.getElem_cons_zero, Act.put, List.setIfInBounds_toArray, List.set_cons_zero, List.set_cons_succ]
            refine wpAnyH_take (i := 26) (v := .int .i64 1) rfl (by kernel_rfl) (by kernel_rfl) (by kernel_rfl) (fun _ _ _ h => h) (Or.inl ⟨by rfl, (fun W _ => by go_simp; first | done | rfl | decide | (rw [IntKind.wrap_i64]; omega))⟩) ⟨D.out.hm, D.out.hw⟩ ?_
            simp only [List.getElem_toArray, List.getElem_cons_succ, List.getElem_cons_zero, Act.put, List.setIfInBounds_toArray, List.set_cons_zero, List.set_cons_succ]
            refine wpAnyH_take (i := 27) (v := .pointer (some ⟨w.heap.size, 1, none⟩)) rfl (by kernel_rfl) (by kernel_rfl) (by kernel_rfl) (fun _ _ _ h => h) (Or.inl ⟨by rfl, (fun W _ => by go_simp)⟩) ⟨D.out.hm, D.out.hw⟩ ?_
            simp only [List.getElem_toArray, List.getElem_cons_succ, List.getElem_cons_zero, Act.put, List.setIfInBounds_toArray, List.set_cons_zero, List.set_cons_succ]
            refine wpAnyH_take (i := 28) (v := .pointer (some ⟨w.heap.size, 35, none⟩)) rfl (by kernel_rfl) (by kernel_rfl) (by kernel_rfl) (fun _ _ _ h => h) (Or.inl ⟨by rfl, (fun W _ => by go_simp)⟩) ⟨D.out.hm, D.out.hw⟩ ?_
            simp only [List.getElem_toArray, List.getElem_cons_succ, List.getElem_cons_zero, Act.put, List.setIfInBounds_toArray, List.set_cons_zero, List.set_cons_succ]
            refine wpAnyH_take (i := 29) (v := .agg zeroI.cells) rfl (by kernel_rfl) (by kernel_rfl) (by kernel_rfl) (fun _ _ _ h => h) (yields_ld (by rfl) 24 (.tmp 225) rfl _ _ (fun W hW => (seen_of hW.1 D.out.ok).l1) rfl) ⟨D.out.hm, D.out.hw⟩ ?_
            simp only [List.getElem_toArray, List.getElem_cons_succ, List.getElem_cons_zero, Act.put, List.setIfInBounds_toArray, List.set_cons_zero, List.set_cons_succ]
            refine wpAnyH_take (i := 30) (v := .agg zeroI.cells) rfl (by kernel_rfl) (by kernel_rfl) (by kernel_rfl) (fun _ _ _ h => h) (yields_build (by rfl) 24 _ rfl _ (by kernel_rfl)) ⟨D.out.hm, D.out.hw⟩ ?_
            simp only [List.getElem_toArray, List.getElem_cons_succ, List.getElem_cons_zero, Act.put, List.setIfInBounds_toArray, List.set_cons_zero, List.set_cons_succ]
            refine wpAnyH_take (i := 31) (v := .bool true) rfl (by kernel_rfl) (by kernel_rfl) (by kernel_rfl) (fun _ _ _ h => h) (yields_eq24 (by rfl) (.tmp 226) (.tmp 227) rfl zeroI rfl rfl zeroI_ok) ⟨D.out.hm, D.out.hw⟩ ?_
            simp only [List.getElem_toArray, List.getElem_cons_succ, List.getElem_cons_zero, Act.put, List.setIfInBounds_toArray, List.set_cons_zero, List.set_cons_succ]
            refine wpAnyH_take (i := 32) (v := .bool true) rfl (by kernel_rfl) (by kernel_rfl) (by kernel_rfl) (fun _ _ _ h => h) (Or.inl ⟨by rfl, (fun W _ => by go_simp)⟩) ⟨D.out.hm, D.out.hw⟩ ?_
            simp only [List.getElem_toArray, List.getElem_cons_succ, List.getElem_cons_zero, Act.put, List.setIfInBounds_toArray, List.set_cons_zero, List.set_cons_succ]
            refine wpAnyH_take (i := 33) (v := .bool true) rfl (by kernel_rfl) (by kernel_rfl) (by kernel_rfl) (fun _ _ _ h => h) (Or.inl ⟨by rfl, (fun W _ => by go_simp)⟩) ⟨D.out.hm, D.out.hw⟩ ?_
            simp only [List.getElem_toArray, List.getElem_cons_succ, List.getElem_cons_zero, Act.put, List.setIfInBounds_toArray, List.set_cons_zero, List.set_cons_succ]
            refine wpAnyH_take (i := 34) (v := .pointer (some ⟨w.heap.size, 69, none⟩)) rfl (by kernel_rfl) (by kernel_rfl) (by kernel_rfl) (fun _ _ _ h => h) (Or.inl ⟨by rfl, (fun W _ => by go_simp)⟩) ⟨D.out.hm, D.out.hw⟩ ?_
            simp only [List.getElem_toArray, List.getElem_cons_succ, List.getElem_cons_zero, Act.put, List.setIfInBounds_toArray, List.set_cons_zero, List.set_cons_succ]
            refine wpAnyH_take (i := 35) (v := .int .i64 l) rfl (by kernel_rfl) (by kernel_rfl) (by kernel_rfl) (fun _ _ _ h => h) (yields_ld (by rfl) 3 (.tmp 231) rfl _ _ (fun W hW => ld3 (seen_of hW.1 D.out.ok).least) rfl) ⟨D.out.hm, D.out.hw⟩ ?_
            simp only [List.getElem_toArray, List.getElem_cons_succ, List.getElem_cons_zero, Act.put, List.setIfInBounds_toArray, List.set_cons_zero, List.set_cons_succ]
            refine wpAnyH_take (i := 36) (v := .pointer (some ⟨p, 69, none⟩)) rfl (by kernel_rfl) (by kernel_rfl) (by kernel_rfl) (fun _ _ _ h => h) (Or.inl ⟨by rfl, (fun W _ => by go_simp)⟩) ⟨D.out.hm, D.out.hw⟩ ?_
            simp only [List.getElem_toArray, List.getElem_cons_succ, List.getElem_cons_zero, Act.put, List.setIfInBounds_toArray, List.set_cons_zero, List.set_cons_succ]
            refine wpAnyH_take (i := 37) (v := .int .i64 l) rfl (by kernel_rfl) (by kernel_rfl) (by kernel_rfl) (fun _ _ _ h => h) (yields_ld (by rfl) 3 (.tmp 233) rfl _ _ (fun W hW => ld3 (seen_of hW.2 D.out.okm).least) rfl) ⟨D.out.hm, D.out.hw⟩ ?_
            simp only [List.getElem_toArray, List.getElem_cons_succ, List.getElem_cons_zero, Act.put, List.setIfInBounds_toArray, List.set_cons_zero, List.set_cons_succ]
            refine wpAnyH_take (i := 38) (v := .bool true) rfl (by kernel_rfl) (by kernel_rfl) (by kernel_rfl) (fun _ _ _ h => h) (Or.inl ⟨by rfl, (fun W _ => by go_simp)⟩) ⟨D.out.hm, D.out.hw⟩ ?_
            simp only [List.getElem_toArray, List.getElem_cons_succ, List.getElem_cons_zero, Act.put, List.setIfInBounds_toArray, List.set_cons_zero, List.set_cons_succ]
            refine wpAnyH_take (i := 39) (v := .bool true) rfl (by kernel_rfl) (by kernel_rfl) (by kernel_rfl) (fun _ _ _ h => h) (Or.inl ⟨by rfl, (fun W _ => by go_simp)⟩) ⟨D.out.hm, D.out.hw⟩ ?_
            simp only [List.getElem_toArray, List.getElem_cons_succ, List.getElem_cons_zero, Act.put, List.setIfInBounds_toArray, List.set_cons_zero, List.set_cons_succ]
            refine wpAnyH_take (i := 40) (v := .bool true) rfl (by kernel_rfl) (by kernel_rfl) (by kernel_rfl) (fun _ _ _ h => h) (Or.inl ⟨by rfl, (fun W _ => by go_simp)⟩) ⟨D.out.hm, D.out.hw⟩ ?_
            simp only [List.getElem_toArray, List.getElem_cons_succ, List.getElem_cons_zero, Act.put, List.setIfInBounds_toArray, List.set_cons_zero, List.set_cons_succ]
            refine wpAnyH_done (by kernel_rfl) ?_ _
            go_wp2_with fail
            go_ret
            exact ⟨rfl, D.out.hb⟩
          have dq3 : decide (2 < (q : Int)) = false := decide_eq_false (by omega)
          have OC := Lib.hid WAY.out.okC
          have OO := Lib.hid WAY.out.okO
          cases cf with
          | true =>
            have HC := Lib.hid (WAY.out.con q b1 (by omega))
            go_wp2_with (first
              | (refine wpList_bld 30 _ rfl (Rq.cells ⟨7, 0, none, 0, 0, []⟩) (by kernel_rfl) rfl ?_; have LQ := Lib.hid D.out.hr.size; have QQ := Lib.hid (has_new wr 30 zeroQ.cells); replace D := Lib.hid (D.out.more (.cells zeroQ.cells 30)))
              | (refine wpList_row rfl 30 _ _ rfl wr.heap.size (Rq.cells ⟨7, 0, none, 0, 0, []⟩) rfl rfl 30 _ QQ.out (size30 _) rfl (rq_all _) ?_; intro w1 hs on; replace QQ := Lib.hid hs; replace D := Lib.hid (D.out.only on LQ.out); clear hs on)
              | (refine wpList_kind rfl _ _ rfl wr.heap.size 6 rfl rfl ⟨7, 0, none, 0, 0, []⟩ QQ.out ?_; intro w1 hs on; replace QQ := Lib.hid hs; replace D := Lib.hid (D.out.only on LQ.out); clear hs on)
              | (refine wpList_ld 30 _ rfl _ _ (seen_q QQ.out).all rfl rfl ?_)
              | (refine wpList_ld 27 _ rfl _ _ (ld27 D.out.hm D.out.ok) rfl rfl ?_)
              | (refine wpList_ld 32 _ rfl _ _ (seen_f D.out.hf D.out.okf).all rfl rfl ?_)
              | (go_at_call 10; (with_reducible refine (HC.out _).mono ?_); rintro e w1 ⟨rfl, b1⟩; replace D := Lib.hid (D.out.kept b1); clear b1 HC)
              | (refine wpList_row rfl 27 _ _ rfl w.heap.size _ rfl rfl 27 _ D.out.hm (size27 OC.out) (old27 D.out.ok OC.out) (mt_all _) ?_; intro w1 hs on; replace D := Lib.hid (D.out.setm OC.out hs on); clear hs on)
              | (refine wpList_row rfl 36 _ _ rfl r _ rfl rfl 36 _ D.out.hr (size36 _) rfl (rp_all _) ?_; intro w1 hs on; replace D := Lib.hid (D.out.setr hs on); clear hs on)
              | (refine wpList_ld 34 _ rfl _ _ (ld34' (D.out.hr.at 0)) rfl rfl ?_)
              | (refine wpList_ld 3 _ rfl _ _ (ld3 (seen_of D.out.hm D.out.ok).phase) rfl rfl ?_))
            refine wp_region_held_drew (S := (fun W => Has W w.heap.size 27 (Mt.cells ⟨1, h0, x, x.ver, 0, zeroI, 0, 0⟩) ∧ Has W p 27 (Mt.cells ⟨0, h0, h1, l, 0, com, gt, tr⟩) ∧ Has W (w.heap.size + 1) 24 x.cells)) (by kernel_rfl) ⟨D.out.drew.hm, D.out.drew.hw, D.out.drew.hx⟩ ?_
            intro _
            replace D := Lib.hid D.out.drew
            refine wpAnyH_take (i := 0) (v := .pointer (some ⟨w.heap.size, 0, none⟩)) rfl (by kernel_rfl) (by kernel_rfl) (by kernel_rfl) (fun _ _ _ h => h) (Or.inl ⟨by rfl, (fun W _ => by go_simp)⟩) ⟨D.out.hm, D.out.hw, D.out.hx⟩ ?_
            simp only [List.getElem_toArray, List.getElem_cons_succ, List.getElem_cons_zero, Act.put, List.setIfInBounds_toArray, List.set_cons_zero, List.set_cons_succ]
            refine wpAnyH_take (i := 1) (v := .int .i64 1) rfl (by kernel_rfl) (by kernel_rfl) (by kernel_rfl) (fun _ _ _ h => h) (yields_ld (by rfl) 3 (.tmp 256) rfl _ _ (fun W hW => ld3 (seen_of hW.1 D.out.ok).act) rfl) ⟨D.out.hm, D.out.hw, D.out.hx⟩ ?_
            simp only [List.getElem_toArray, List.getElem_cons_succ, List.getElem_cons_zero, Act.put, List.setIfInBounds_toArray, List.set_cons_zero, List.set_cons_succ]
            refine wpAnyH_take (i := 2) (v := .pointer (some ⟨p, 0, none⟩)) rfl (by kernel_rfl) (by kernel_rfl) (by kernel_rfl) (fun _ _ _ h => h) (Or.inl ⟨by rfl, (fun W _ => by go_simp)⟩) ⟨D.out.hm, D.out.hw, D.out.hx⟩ ?_
            simp only [List.getElem_toArray, List.getElem_cons_succ, List.getElem_cons_zero, Act.put, List.setIfInBounds_toArray, List.set_cons_zero, List.set_cons_succ]
            refine wpAnyH_take (i := 3) (v := .int .i64 0) rfl (by kernel_rfl) (by kernel_rfl) (by kernel_rfl) (fun _ _ _ h => h) (yields_ld (by rfl) 3 (.tmp 258) rfl _ _ (fun W hW => ld3 (seen_of hW.2.1 D.out.okm).act) rfl) ⟨D.out.hm, D.out.hw, D.out.hx⟩ ?_
            simp only [List.getElem_toArray, List.getElem_cons_succ, List.getElem_cons_zero, Act.put, List.setIfInBounds_toArray, List.set_cons_zero, List.set_cons_succ]
            refine wpAnyH_take (i := 4) (v := .int .i64 1) rfl (by kernel_rfl) (by kernel_rfl) (by kernel_rfl) (fun _ _ _ h => h) (Or.inl ⟨by rfl, (fun W _ => by go_simp; first | done | rfl | decide | (rw [IntKind.wrap_i64]; omega))⟩) ⟨D.out.hm, D.out.hw, D.out.hx⟩ ?_
            simp only [List.getElem_toArray, List.getElem_cons_succ, List.getElem_cons_zero, Act.put, List.setIfInBounds_toArray, List.set_cons_zero, List.set_cons_succ]
            refine wpAnyH_take (i := 5) (v := .bool true) rfl (by kernel_rfl) (by kernel_rfl) (by kernel_rfl) (fun _ _ _ h => h) (Or.inl ⟨by rfl, (fun W _ => by go_simp)⟩) ⟨D.out.hm, D.out.hw, D.out.hx⟩ ?_
            simp only [List.getElem_toArray, List.getElem_cons_succ, List.getElem_cons_zero, Act.put, List.setIfInBounds_toArray, List.set_cons_zero, List.set_cons_succ]
            refine wpAnyH_take (i := 6) (v := .bool true) rfl (by kernel_rfl) (by kernel_rfl) (by kernel_rfl) (fun _ _ _ h => h) (Or.inl ⟨by rfl, (fun W _ => by go_simp)⟩) ⟨D.out.hm, D.out.hw, D.out.hx⟩ ?_
            simp only [List.getElem_toArray, List.getElem_cons_succ, List.getElem_cons_zero, Act.put, List.setIfInBounds_toArray, List.set_cons_zero, List.set_cons_succ]
            refine wpAnyH_take (i := 7) (v := .pointer (some ⟨w.heap.size, 0, none⟩)) rfl (by kernel_rfl) (by kernel_rfl) (by kernel_rfl) (fun _ _ _ h => h) (Or.inl ⟨by rfl, (fun W _ => by go_simp)⟩) ⟨D.out.hm, D.out.hw, D.out.hx⟩ ?_
            simp only [List.getElem_toArray, List.getElem_cons_succ, List.getElem_cons_zero, Act.put, List.setIfInBounds_toArray, List.set_cons_zero, List.set_cons_succ]
            refine wpAnyH_take (i := 8) (v := .int .i64 1) rfl (by kernel_rfl) (by kernel_rfl) (by kernel_rfl) (fun _ _ _ h => h) (yields_ld (by rfl) 3 (.tmp 263) rfl _ _ (fun W hW => ld3 (seen_of hW.1 D.out.ok).act) rfl) ⟨D.out.hm, D.out.hw, D.out.hx⟩ ?_
            simp only [List.getElem_toArray, List.getElem_cons_succ, List.getElem_cons_zero, Act.put, List.setIfInBounds_toArray, List.set_cons_zero, List.set_cons_succ]
            refine wpAnyH_take (i := 9) (v := .pointer (some ⟨w.heap.size, 1, none⟩)) rfl (by kernel_rfl) (by kernel_rfl) (by kernel_rfl) (fun _ _ _ h => h) (Or.inl ⟨by rfl, (fun W _ => by go_simp)⟩) ⟨D.out.hm, D.out.hw, D.out.hx⟩ ?_
            simp only [List.getElem_toArray, List.getElem_cons_succ, List.getElem_cons_zero, Act.put, List.setIfInBounds_toArray, List.set_cons_zero, List.set_cons_succ]
            refine wpAnyH_take (i := 10) (v := .pointer (some ⟨w.heap.size, 35, none⟩)) rfl (by kernel_rfl) (by kernel_rfl) (by kernel_rfl) (fun _ _ _ h => h) (Or.inl ⟨by rfl, (fun W _ => by go_simp)⟩) ⟨D.out.hm, D.out.hw, D.out.hx⟩ ?_
            simp only [List.getElem_toArray, List.getElem_cons_succ, List.getElem_cons_zero, Act.put, List.setIfInBounds_toArray, List.set_cons_zero, List.set_cons_succ]
            refine wpAnyH_take (i := 11) (v := .agg x.cells) rfl (by kernel_rfl) (by kernel_rfl) (by kernel_rfl) (fun _ _ _ h => h) (yields_ld (by rfl) 24 (.tmp 266) rfl _ _ (fun W hW => (seen_of hW.1 D.out.ok).l1) rfl) ⟨D.out.hm, D.out.hw, D.out.hx⟩ ?_
            simp only [List.getElem_toArray, List.getElem_cons_succ, List.getElem_cons_zero, Act.put, List.setIfInBounds_toArray, List.set_cons_zero, List.set_cons_succ]
            refine wpAnyH_take (i := 12) (v := .agg x.cells) rfl (by kernel_rfl) (by kernel_rfl) (by kernel_rfl) (fun _ _ _ h => h) (yields_ld (by rfl) 24 (.tmp 7) rfl _ _ (fun W hW => ld24w hW.2.2 OX.out) rfl) ⟨D.out.hm, D.out.hw, D.out.hx⟩ ?_
            simp only [List.getElem_toArray, List.getElem_cons_succ, List.getElem_cons_zero, Act.put, List.setIfInBounds_toArray, List.set_cons_zero, List.set_cons_succ]
            refine wpAnyH_take (i := 13) (v := .bool true) rfl (by kernel_rfl) (by kernel_rfl) (by kernel_rfl) (fun _ _ _ h => h) (yields_eq24 (by rfl) (.tmp 267) (.tmp 268) rfl x rfl rfl OX.out) ⟨D.out.hm, D.out.hw, D.out.hx⟩ ?_
            simp only [List.getElem_toArray, List.getElem_cons_succ, List.getElem_cons_zero, Act.put, List.setIfInBounds_toArray, List.set_cons_zero, List.set_cons_succ]
            refine wpAnyH_take (i := 14) (v := .bool true) rfl (by kernel_rfl) (by kernel_rfl) (by kernel_rfl) (fun _ _ _ h => h) (Or.inl ⟨by rfl, (fun W _ => by go_simp)⟩) ⟨D.out.hm, D.out.hw, D.out.hx⟩ ?_
            simp only [List.getElem_toArray, List.getElem_cons_succ, List.getElem_cons_zero, Act.put, List.setIfInBounds_toArray, List.set_cons_zero, List.set_cons_succ]
            refine wpAnyH_take (i := 15) (v := .bool true) rfl (by kernel_rfl) (by kernel_rfl) (by kernel_rfl) (fun _ _ _ h => h) (Or.inl ⟨by rfl, (fun W _ => by go_simp)⟩) ⟨D.out.hm, D.out.hw, D.out.hx⟩ ?_
            simp only [List.getElem_toArray, List.getElem_cons_succ, List.getElem_cons_zero, Act.put, List.setIfInBounds_toArray, List.set_cons_zero, List.set_cons_succ]
            refine wpAnyH_take (i := 16) (v := .pointer (some ⟨w.heap.size, 69, none⟩)) rfl (by kernel_rfl) (by kernel_rfl) (by kernel_rfl) (fun _ _ _ h => h) (Or.inl ⟨by rfl, (fun W _ => by go_simp)⟩) ⟨D.out.hm, D.out.hw, D.out.hx⟩ ?_
            simp only [List.getElem_toArray, List.getElem_cons_succ, List.getElem_cons_zero, Act.put, List.setIfInBounds_toArray, List.set_cons_zero, List.set_cons_succ]
            refine wpAnyH_take (i := 17) (v := .int .i64 x.ver) rfl (by kernel_rfl) (by kernel_rfl) (by kernel_rfl) (fun _ _ _ h => h) (yields_ld (by rfl) 3 (.tmp 272) rfl _ _ (fun W hW => ld3 (seen_of hW.1 D.out.ok).least) rfl) ⟨D.out.hm, D.out.hw, D.out.hx⟩ ?_
            simp only [List.getElem_toArray, List.getElem_cons_succ, List.getElem_cons_zero, Act.put, List.setIfInBounds_toArray, List.set_cons_zero, List.set_cons_succ]
            refine wpAnyH_take (i := 18) (v := .pointer (some ⟨w.heap.size + 1, 0, none⟩)) rfl (by kernel_rfl) (by kernel_rfl) (by kernel_rfl) (fun _ _ _ h => h) (Or.inl ⟨by rfl, (fun W _ => by go_simp)⟩) ⟨D.out.hm, D.out.hw, D.out.hx⟩ ?_
            simp only [List.getElem_toArray, List.getElem_cons_succ, List.getElem_cons_zero, Act.put, List.setIfInBounds_toArray, List.set_cons_zero, List.set_cons_succ]
            refine wpAnyH_take (i := 19) (v := .int .i64 x.ver) rfl (by kernel_rfl) (by kernel_rfl) (by kernel_rfl) (fun _ _ _ h => h) (yields_ld (by rfl) 3 (.tmp 274) rfl _ _ (fun W hW => ld3 (xs_ver hW.2.2)) rfl) ⟨D.out.hm, D.out.hw, D.out.hx⟩ ?_
            simp only [List.getElem_toArray, List.getElem_cons_succ, List.getElem_cons_zero, Act.put, List.setIfInBounds_toArray, List.set_cons_zero, List.set_cons_succ]
            refine wpAnyH_take (i := 20) (v := .bool true) rfl (by kernel_rfl) (by kernel_rfl) (by kernel_rfl) (fun _ _ _ h => h) (Or.inl ⟨by rfl, (fun W _ => by go_simp)⟩) ⟨D.out.hm, D.out.hw, D.out.hx⟩ ?_
            simp only [List.getElem_toArray, List.getElem_cons_succ, List.getElem_cons_zero, Act.put, List.setIfInBounds_toArray, List.set_cons_zero, List.set_cons_succ]
            refine wpAnyH_take (i := 21) (v := .bool true) rfl (by kernel_rfl) (by kernel_rfl) (by kernel_rfl) (fun _ _ _ h => h) (Or.inl ⟨by rfl, (fun W _ => by go_simp)⟩) ⟨D.out.hm, D.out.hw, D.out.hx⟩ ?_
            simp only [List.getElem_toArray, List.getElem_cons_succ, List.getElem_cons_zero, Act.put, List.setIfInBounds_toArray, List.set_cons_zero, List.set_cons_succ]
            refine wpAnyH_take (i := 22) (v := .bool true) rfl (by kernel_rfl) (by kernel_rfl) (by kernel_rfl) (fun _ _ _ h => h) (Or.inl ⟨by rfl, (fun W _ => by go_simp)⟩) ⟨D.out.hm, D.out.hw, D.out.hx⟩ ?_
            simp only [List.getElem_toArray, List.getElem_cons_succ, List.getElem_cons_zero, Act.put, List.setIfInBounds_toArray, List.set_cons_zero, List.set_cons_succ]
            refine wpAnyH_take (i := 23) (v := .pointer (some ⟨p, 0, none⟩)) rfl (by kernel_rfl) (by kernel_rfl) (by kernel_rfl) (fun _ _ _ h => h) (Or.inl ⟨by rfl, (fun W _ => by go_simp)⟩) ⟨D.out.hm, D.out.hw, D.out.hx⟩ ?_
            simp only [List.getElem_toArray, List.getElem_cons_succ, List.getElem_cons_zero, Act.put, List.setIfInBounds_toArray, List.set_cons_zero, List.set_cons_succ]
            refine wpAnyH_take (i := 24) (v := .int .i64 0) rfl (by kernel_rfl) (by kernel_rfl) (by kernel_rfl) (fun _ _ _ h => h) (yields_ld (by rfl) 3 (.tmp 279) rfl _ _ (fun W hW => ld3 (seen_of hW.2.1 D.out.okm).act) rfl) ⟨D.out.hm, D.out.hw, D.out.hx⟩ ?_
            simp only [List.getElem_toArray, List.getElem_cons_succ, List.getElem_cons_zero, Act.put, List.setIfInBounds_toArray, List.set_cons_zero, List.set_cons_succ]
            refine wpAnyH_take (i := 25) (v := .pointer (some ⟨w.heap.size, 1, none⟩)) rfl (by kernel_rfl) (by kernel_rfl) (by kernel_rfl) (fun _ _ _ h => h) (Or.inl ⟨by rfl, (fun W _ => by go_simp)⟩) ⟨D.out.hm, D.out.hw, D.out.hx⟩ ?_
            simp only [List.getElem_toArray, List.getElem_cons_succ, List.getElem_cons_zero, Act.put, List.setIfInBounds_toArray, List.set_cons_zero, List.set_cons_succ]
            refine wpAnyH_take (i := 26) (v := .pointer (some ⟨w.heap.size, 1, none⟩)) rfl (by kernel_rfl) (by kernel_rfl) (by kernel_rfl) (fun _ _ _ h => h) (Or.inl ⟨by rfl, (fun W _ => by go_simp)⟩) ⟨D.out.hm, D.out.hw, D.out.hx⟩ ?_
            simp only [List.getElem_toArray, List.getElem_cons_succ, List.getElem_cons_zero, Act.put, List.setIfInBounds_toArray, List.set_cons_zero, List.set_cons_succ]
            refine wpAnyH_take (i := 27) (v := .agg h0.cells) rfl (by kernel_rfl) (by kernel_rfl) (by kernel_rfl) (fun _ _ _ h => h) (yields_ld (by rfl) 24 (.tmp 282) rfl _ _ (fun W hW => (seen_of hW.1 D.out.ok).l0) rfl) ⟨D.out.hm, D.out.hw, D.out.hx⟩ ?_
            simp only [List.getElem_toArray, List.getElem_cons_succ, List.getElem_cons_zero, Act.put, List.setIfInBounds_toArray, List.set_cons_zero, List.set_cons_succ]
            refine wpAnyH_take (i := 28) (v := .pointer (some ⟨p, 0, none⟩)) rfl (by kernel_rfl) (by kernel_rfl) (by kernel_rfl) (fun _ _ _ h => h) (Or.inl ⟨by rfl, (fun W _ => by go_simp)⟩) ⟨D.out.hm, D.out.hw, D.out.hx⟩ ?_
            simp only [List.getElem_toArray, List.getElem_cons_succ, List.getElem_cons_zero, Act.put, List.setIfInBounds_toArray, List.set_cons_zero, List.set_cons_succ]
            refine wpAnyH_take (i := 29) (v := .int .i64 0) rfl (by kernel_rfl) (by kernel_rfl) (by kernel_rfl) (fun _ _ _ h => h) (yields_ld (by rfl) 3 (.tmp 284) rfl _ _ (fun W hW => ld3 (seen_of hW.2.1 D.out.okm).act) rfl) ⟨D.out.hm, D.out.hw, D.out.hx⟩ ?_
            simp only [List.getElem_toArray, List.getElem_cons_succ, List.getElem_cons_zero, Act.put, List.setIfInBounds_toArray, List.set_cons_zero, List.set_cons_succ]
            refine wpAnyH_take (i := 30) (v := .pointer (some ⟨p, 1, none⟩)) rfl (by kernel_rfl) (by kernel_rfl) (by kernel_rfl) (fun _ _ _ h => h) (Or.inl ⟨by rfl, (fun W _ => by go_simp)⟩) ⟨D.out.hm, D.out.hw, D.out.hx⟩ ?_
            simp only [List.getElem_toArray, List.getElem_cons_succ, List.getElem_cons_zero, Act.put, List.setIfInBounds_toArray, List.set_cons_zero, List.set_cons_succ]
            refine wpAnyH_take (i := 31) (v := .pointer (some ⟨p, 1, none⟩)) rfl (by kernel_rfl) (by kernel_rfl) (by kernel_rfl) (fun _ _ _ h => h) (Or.inl ⟨by rfl, (fun W _ => by go_simp)⟩) ⟨D.out.hm, D.out.hw, D.out.hx⟩ ?_
            simp only [List.getElem_toArray, List.getElem_cons_succ, List.getElem_cons_zero, Act.put, List.setIfInBounds_toArray, List.set_cons_zero, List.set_cons_succ]
            refine wpAnyH_take (i := 32) (v := .agg h0.cells) rfl (by kernel_rfl) (by kernel_rfl) (by kernel_rfl) (fun _ _ _ h => h) (yields_ld (by rfl) 24 (.tmp 287) rfl _ _ (fun W hW => (seen_of hW.2.1 D.out.okm).l0) rfl) ⟨D.out.hm, D.out.hw, D.out.hx⟩ ?_
            simp only [List.getElem_toArray, List.getElem_cons_succ, List.getElem_cons_zero, Act.put, List.setIfInBounds_toArray, List.set_cons_zero, List.set_cons_succ]
            refine wpAnyH_take (i := 33) (v := .bool true) rfl (by kernel_rfl) (by kernel_rfl) (by kernel_rfl) (fun _ _ _ h => h) (yields_eq24 (by rfl) (.tmp 283) (.tmp 288) rfl h0 rfl rfl D.out.okm.h0) ⟨D.out.hm, D.out.hw, D.out.hx⟩ ?_
            simp only [List.getElem_toArray, List.getElem_cons_succ, List.getElem_cons_zero, Act.put, List.setIfInBounds_toArray, List.set_cons_zero, List.set_cons_succ]
            refine wpAnyH_take (i := 34) (v := .bool true) rfl (by kernel_rfl) (by kernel_rfl) (by kernel_rfl) (fun _ _ _ h => h) (Or.inl ⟨by rfl, (fun W _ => by go_simp)⟩) ⟨D.out.hm, D.out.hw, D.out.hx⟩ ?_
            simp only [List.getElem_toArray, List.getElem_cons_succ, List.getElem_cons_zero, Act.put, List.setIfInBounds_toArray, List.set_cons_zero, List.set_cons_succ]
            refine wpAnyH_take (i := 35) (v := .bool true) rfl (by kernel_rfl) (by kernel_rfl) (by kernel_rfl) (fun _ _ _ h => h) (Or.inl ⟨by rfl, (fun W _ => by go_simp)⟩) ⟨D.out.hm, D.out.hw, D.out.hx⟩ ?_
            simp only [List.getElem_toArray, List.getElem_cons_succ, List.getElem_cons_zero, Act.put, List.setIfInBounds_toArray, List.set_cons_zero, List.set_cons_succ]
            refine wpAnyH_done (by kernel_rfl) ?_ _
            go_wp2_with fail
            go_ret
            exact ⟨rfl, D.out.hb⟩
          | false =>
            have HC := Lib.hid (WAY.out.rol q b1 (by omega))
            go_wp2_with (first
              | (refine wpList_bld 30 _ rfl (Rq.cells ⟨7, 0, none, 0, 0, []⟩) (by kernel_rfl) rfl ?_; have LQ := Lib.hid D.out.hr.size; have QQ := Lib.hid (has_new wr 30 zeroQ.cells); replace D := Lib.hid (D.out.more (.cells zeroQ.cells 30)))
              | (refine wpList_row rfl 30 _ _ rfl wr.heap.size (Rq.cells ⟨7, 0, none, 0, 0, []⟩) rfl rfl 30 _ QQ.out (size30 _) rfl (rq_all _) ?_; intro w1 hs on; replace QQ := Lib.hid hs; replace D := Lib.hid (D.out.only on LQ.out); clear hs on)
              | (refine wpList_ld 30 _ rfl _ _ (seen_q QQ.out).all rfl rfl ?_)
              | (refine wpList_ld 27 _ rfl _ _ (ld27 D.out.hm D.out.ok) rfl rfl ?_)
              | (refine wpList_ld 32 _ rfl _ _ (seen_f D.out.hf D.out.okf).all rfl rfl ?_)
              | (go_at_call 10; (with_reducible refine (HC.out _).mono ?_); rintro e w1 ⟨rfl, b1⟩; replace D := Lib.hid (D.out.kept b1); clear b1 HC)
              | (refine wpList_row rfl 27 _ _ rfl w.heap.size _ rfl rfl 27 _ D.out.hm (size27 OO.out) (old27 D.out.ok OO.out) (mt_all _) ?_; intro w1 hs on; replace D := Lib.hid (D.out.setm OO.out hs on); clear hs on)
              | (refine wpList_row rfl 36 _ _ rfl r _ rfl rfl 36 _ D.out.hr (size36 _) rfl (rp_all _) ?_; intro w1 hs on; replace D := Lib.hid (D.out.setr hs on); clear hs on)
              | (refine wpList_ld 34 _ rfl _ _ (ld34' (D.out.hr.at 0)) rfl rfl ?_)
              | (refine wpList_ld 3 _ rfl _ _ (ld3 (seen_of D.out.hm D.out.ok).phase) rfl rfl ?_)
              | (refine wpList_ld 3 _ rfl _ _ (ld3 (seen_of D.out.hm D.out.ok).act) rfl rfl ?_)
              | (refine wpList_ld 3 _ rfl _ _ (ld3 (seen_of D.out.hw D.out.okm).act) rfl rfl ?_)
              | (refine wpList_ld 3 _ rfl _ _ (ld3 (seen_of D.out.hm D.out.ok).least) rfl rfl ?_)
              | (refine wpList_ld 3 _ rfl _ _ (ld3 (seen_of D.out.hw D.out.okm).least) rfl rfl ?_)
              | (refine wpList_ld 24 _ rfl _ _ (seen_of D.out.hm D.out.ok).l1 rfl rfl ?_)
              | (refine wpList_bld 24 _ rfl zeroI.cells (by kernel_rfl) rfl ?_)
              | (refine wpList_eqG _ _ rfl zeroI zeroI rfl rfl zeroI_ok rfl rfl ?_))
            go_ret
            exact ⟨rfl, D.out.hb⟩
end Go.Proofs.YtcokpdhhpaahgaaDoor.updateGoes
