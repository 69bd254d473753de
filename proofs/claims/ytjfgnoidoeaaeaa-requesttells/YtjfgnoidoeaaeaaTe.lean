/-
  The walk of the law RequestTells: which bytes any request and answer is, and which they are read as; conditions: the rows lie as they read.
-/
import Derived.Test.YtjfgnoidoeaaeaaTo
import Derived.Deep.RegionHeld3
import Derived.Deep.Cut
namespace Go.Proofs.Ytjfgnoidoeaaeaa
open Go.RowKit
def IsQ (k n x : Int) (bs : List Int) (w : World) (e : Ending) (w' : World) : Prop := ∃ A c, e = .returned (.tuple #[.agg (qc k n (.slice A bs.length c)), .int .i64 x]) ∧ bs.length ≤ c ∧ Own w' w.heap.size (.slice A bs.length c) bs.length bs ∧ Below w.heap.size w w'
end Go.Proofs.Ytjfgnoidoeaaeaa
namespace Go.Proofs.Ytjfgnoidoeaaeaa.requestTells
open Go.RowKit
set_option linter.unusedVariables false
set_option linter.unusedSimpArgs false

set_option maxRecDepth 100000 in
set_option maxHeartbeats 16000000 in
theorem walk (k n : Int) (A : Option Addr) (l c : Nat) (bs : List Int) (r : Rp) (A1 : Option Addr) (l1 c1 : Nat) (zs : List Int) (w : World) (hk : I64 k) (hn : I64 n) (hr : Row w A l bs) (_ : l ≤ c) (he : I64 r.err) (hm : I64 r.num) (hg : I64 r.gott) (hz : Row w A1 l1 zs) (hc1 : l1 ≤ c1) :
    Calls Try.prog 3 #[.agg (qc k n (.slice A l c)), .agg r.cells, .slice A1 l1 c1] w fun e w' => e = .returned (.bool true) ∧ Below w.heap.size w w' := by
  have hz24 := zero24_run
  have hz27 := zero27_run
  have C0 : Hid (Below w.heap.size w ((w.alloc (.cells (qc k n (.slice A l c)) 24)).alloc (.cells r.cells 27))) := Lib.hid (((Below.refl _ _).alloc (Nat.le_refl _) _).alloc (by simp) _)
  have H0 : Hid (Has ((w.alloc (.cells (qc k n (.slice A l c)) 24)).alloc (.cells r.cells 27)) w.heap.size 24 (qc k n (.slice A l c))) := Lib.hid ((has_new w 24 (qc k n (.slice A l c))).more _)
  have g0 := has_new (w.alloc (.cells (qc k n (.slice A l c)) 24)) 27 r.cells
  rw [World.size_alloc] at g0
  have G0 := Lib.hid g0
  have HLV := Lib.hid (live_any ((w.alloc (.cells (qc k n (.slice A l c)) 24)).alloc (.cells r.cells 27)))
  clear g0
  by_cases i0 : 1200 < (l : Int)
  · have d0 := decide_eq_true i0
    clear hr hz i0
    go_enter Try.func3, Try.ntmps3
    go_wp2_with (first | (go_at_call 6; (with_reducible refine HLV.out.mono ?_); rintro e w1 ⟨rfl, b1⟩; clear HLV; have H1 := Lib.hid (H0.out.kept b1); have G1 := Lib.hid (G0.out.kept b1); have C1 := Lib.hid (C0.out.trans (b1.mono C0.out.size)); clear b1 H0 G0; have q2 : w1.cell? ⟨w.heap.size, 2, none⟩ = some (.slice A l c) := H1.out.at 2))
    go_ret
    exact ⟨rfl, C1.out⟩
  have d0 := decide_eq_false i0
  by_cases i1 : 1200 < (l1 : Int)
  · have d1 := decide_eq_true i1
    clear hr hz i1 i0
    go_enter Try.func3, Try.ntmps3
    go_wp2_with (first | (go_at_call 6; (with_reducible refine HLV.out.mono ?_); rintro e w1 ⟨rfl, b1⟩; clear HLV; have H1 := Lib.hid (H0.out.kept b1); have G1 := Lib.hid (G0.out.kept b1); have C1 := Lib.hid (C0.out.trans (b1.mono C0.out.size)); clear b1 H0 G0; have q2 : w1.cell? ⟨w.heap.size, 2, none⟩ = some (.slice A l c) := H1.out.at 2))
    go_ret
    exact ⟨rfl, C1.out⟩
  have d1 := decide_eq_false i1
  have HRW := Lib.hid hr
  have HZW := Lib.hid hz
  have HL1 := Lib.hid (show l1 ≤ 1200 by omega)
  have HL0 := Lib.hid (show l ≤ 1200 by omega)
  obtain ⟨X, hX⟩ : ∃ X, reqOut k n bs = X := ⟨_, rfl⟩
  obtain ⟨LX, hLX⟩ : ∃ L, X.length = L := ⟨_, rfl⟩
  obtain ⟨Y, hY⟩ : ∃ Y, respOut r = Y := ⟨_, rfl⟩
  obtain ⟨TK, hTK⟩ : ∃ x, toldK zs = x := ⟨_, rfl⟩
  obtain ⟨TN, hTN⟩ : ∃ x, toldN zs = x := ⟨_, rfl⟩
  obtain ⟨TE, hTE⟩ : ∃ x, toldE zs = x := ⟨_, rfl⟩
  obtain ⟨TB, hTB⟩ : ∃ x, toldB zs = x := ⟨_, rfl⟩
  obtain ⟨LB, hLB⟩ : ∃ L, TB.length = L := ⟨_, rfl⟩
  obtain ⟨RS, hRS⟩ : ∃ x, respR zs = x := ⟨_, rfl⟩
  obtain ⟨RE, hRE⟩ : ∃ x, respE zs = x := ⟨_, rfl⟩
  have HXE := Lib.hid hX
  have HXL := Lib.hid hLX
  have HPB := Lib.hid (fun (W : World) (h : Row W A l bs) => show Calls Try.prog 7 #[.agg (qc k n (.slice A l c))] W (Gives LX X W) by have h1 := bytes_any' k n A l c bs W hk hn h; rw [hX, hLX] at h1; exact h1)
  have HDB := Lib.hid (fun (W : World) (h : Row W A l bs) => show Calls Try.prog 12 #[.agg (qc k n (.slice A l c))] W (Gives LX X W) by have h1 := rbytes_any k n A l c bs W h; rw [hX, hLX] at h1; exact h1)
  have HPA := Lib.hid (fun (W : World) => show Calls Try.prog 15 #[.agg r.cells] W (Gives Y.length Y W) by have h1 := answer_any r W he hm hg; rw [hY] at h1; exact h1)
  have HDA := Lib.hid (fun (W : World) => show Calls Try.prog 16 #[.agg r.cells] W (Gives Y.length Y W) by have h1 := ranswer_any r W; rw [hY] at h1; exact h1)
  have HPR := Lib.hid (fun (B : Option Addr) (d : Nat) (W : World) (h : Row W B l1 zs) => show Calls Try.prog 8 #[.slice B l1 d] W (IsQ TK TN TE TB W) from (read_any B l1 d zs W h (by have := HL1.out; omega)).mono fun e w' hx => readsq_of hTK hTN hTE hTB hx)
  have HDR := Lib.hid (fun (B : Option Addr) (d : Nat) (W : World) (h : Row W B l1 zs) (hd : l1 ≤ d) => show Calls Try.prog 9 #[.slice B l1 d] W (IsQ TK TN TE TB W) from (docRead_any B l1 d zs W h hd (by have := HL1.out; omega)).mono fun e w' hx => readsq_of hTK hTN hTE hTB hx)
  have HPS := Lib.hid (fun (B : Option Addr) (d : Nat) (W : World) (h : Row W B l1 zs) => show Calls Try.prog 10 #[.slice B l1 d] W (IsR RS RE W) by have h1 := readAnswer_any B l1 d zs W h (by have := HL1.out; omega); unfold ReadsR at h1; rw [hRS, hRE] at h1; exact h1)
  have HDS := Lib.hid (fun (B : Option Addr) (d : Nat) (W : World) (h : Row W B l1 zs) (hd : l1 ≤ d) => show Calls Try.prog 11 #[.slice B l1 d] W (IsR RS RE W) by have h1 := docAnswer_any B l1 d zs W h hd (by have := HL1.out; omega); unfold ReadsR at h1; rw [hRS, hRE] at h1; exact h1)
  have HLB := Lib.hid hLB
  clear hr hz hX hLX hY hTK hTN hTE hTB hLB hRS hRE i0 i1 hk hn he hm hg
  go_enter Try.func3, Try.ntmps3
  go_upto_region 9 with (first
    | (go_at_call 6; (with_reducible refine HLV.out.mono ?_); rintro e w1 ⟨rfl, b1⟩; clear HLV; have H1 := Lib.hid (H0.out.kept b1); have G1 := Lib.hid (G0.out.kept b1); have C1 := Lib.hid (C0.out.trans (b1.mono C0.out.size)); clear b1 H0 G0; have q2 : w1.cell? ⟨w.heap.size, 2, none⟩ = some (.slice A l c) := H1.out.at 2; have L1 := Lib.hid (ld24 H1.out))
    | (refine wpList_ld 24 _ rfl _ _ L1.out rfl rfl ?_; have HB := Lib.hid (HPB.out w1 (row_lt HRW.out (Nat.le_refl _) C1.out)))
    | (go_at_call 7; (with_reducible refine HB.out.mono ?_); rintro e w2 ⟨v2, rfl, o2, b2⟩; clear HB L1 HPB q2; have H2 := Lib.hid (H1.out.kept b2); have G2 := Lib.hid (G1.out.kept b2); have C2 := Lib.hid (C1.out.trans (b2.mono C1.out.size)); obtain ⟨A2, c2, rfl, hc2, r2, _⟩ := o2.form; have X2 := Lib.hid r2; clear o2 b2 r2 H1 G1 C1; have r2b := row_lt HZW.out (Nat.le_refl _) C2.out; have n2 := own_nil w2 w2.heap.size)
    | (at_builtin; (with_reducible refine wpList_app rfl _ _ rfl w2.heap.size (.slice none 0 0) 0 [] rfl n2 A1 l1 c1 zs rfl r2b (row_none r2b) (by have := HL1.out; omega) (Nat.le_refl _) ?_); intro v3 w3 o3 g3; have e3 := below_own (Below.refl _ w2) n2 g3 (Nat.le_refl _) (Nat.le_refl _); rw [Nat.zero_add, List.nil_append] at o3; obtain ⟨Aa, ca, rfl, hca, ra, _⟩ := o3.form; have H3 := Lib.hid (H2.out.kept e3); have G3 := Lib.hid (G2.out.kept e3); have C3 := Lib.hid (C2.out.trans (e3.mono C2.out.size)); have X3 := Lib.hid (row_below e3 X2.out); have HR := Lib.hid (HPR.out Aa ca w3 ra); clear r2b n2 o3 g3 e3 ra H2 G2 C2 X2)
    | (go_at_call 8; (with_reducible refine HR.out.mono ?_); rintro e w4 ⟨A3, c3, rfl, hc3, u4, b4⟩; clear HR; rw [HLB.out] at u4; rw [HLB.out]; have r4 := row_own u4; have H4 := Lib.hid (H3.out.kept b4); have G4 := Lib.hid (G3.out.kept b4); have C4 := Lib.hid (C3.out.trans (b4.mono C3.out.size)); have X4 := Lib.hid (row_below b4 X3.out); have P4 := Lib.hid r4; clear u4 r4 b4 H3 G3 C3 X3; have hne4 := has_new w4 24 (qc 0 0 nilV))
    | (refine wpList_row rfl 24 _ _ rfl w4.heap.size (qc TK TN (.slice A3 LB c3)) rfl rfl 24 _ hne4 (size24 _ _ _) rfl (qc_all _ _ _ _ _) ?_; intro w5 hs5 on5; have H5 := Lib.hid (has_on H4.out on5); have G5 := Lib.hid (has_on G4.out on5); have C5 := Lib.hid (below_on C4.out C4.out.size on5); have X5 := Lib.hid (row_on X4.out on5); have P5 := Lib.hid (row_on P4.out on5); have I5 := Lib.hid hs5; clear hs5 on5 hne4 H4 G4 C4 X4 P4; have HR := Lib.hid (HDR.out A1 c1 w5 (row_lt HZW.out (Nat.le_refl _) C5.out) hc1))
    | (go_at_call 9; (with_reducible refine HR.out.mono ?_); rintro e w6 ⟨A5, c5, rfl, hc5, u6, b6⟩; clear HR; rw [HLB.out] at u6; rw [HLB.out]; have r6 := row_own u6; have H6 := Lib.hid (H5.out.kept b6); have G6 := Lib.hid (G5.out.kept b6); have C6 := Lib.hid (C5.out.trans (b6.mono C5.out.size)); have X6 := Lib.hid (row_below b6 X5.out); have P6 := Lib.hid (row_below b6 P5.out); have I6 := Lib.hid (I5.out.kept b6); have Q6 := Lib.hid r6; clear u6 r6 b6 H5 G5 C5 X5 P5 I5; have hne6 := has_new w6 24 (qc 0 0 nilV))
    | (refine wpList_row rfl 24 _ _ rfl w6.heap.size (qc TK TN (.slice A5 LB c5)) rfl rfl 24 _ hne6 (size24 _ _ _) rfl (qc_all _ _ _ _ _) ?_; intro w7 hs7 on7; have H7 := Lib.hid (has_on H6.out on7); have G7 := Lib.hid (has_on G6.out on7); have C7 := Lib.hid (below_on C6.out C6.out.size on7); have X7 := Lib.hid (row_on X6.out on7); have P7 := Lib.hid (row_on P6.out on7); have Q7 := Lib.hid (row_on Q6.out on7); have I7 := Lib.hid (has_on I6.out on7); have J7 := Lib.hid hs7; clear hs7 on7 hne6 H6 G6 C6 X6 P6 Q6 I6; have r7b := row_lt HZW.out (Nat.le_refl _) C7.out; have n7 := own_nil w7 w7.heap.size)
    | (at_builtin; (with_reducible refine wpList_app rfl _ _ rfl w7.heap.size (.slice none 0 0) 0 [] rfl n7 A1 l1 c1 zs rfl r7b (row_none r7b) (by have := HL1.out; omega) (Nat.le_refl _) ?_); intro v8 w8 o8 g8; have e8 := below_own (Below.refl _ w7) n7 g8 (Nat.le_refl _) (Nat.le_refl _); rw [Nat.zero_add, List.nil_append] at o8; obtain ⟨Ab, cb, rfl, hcb, rb, _⟩ := o8.form; have H8 := Lib.hid (H7.out.kept e8); have G8 := Lib.hid (G7.out.kept e8); have C8 := Lib.hid (C7.out.trans (e8.mono C7.out.size)); have X8 := Lib.hid (row_below e8 X7.out); have P8 := Lib.hid (row_below e8 P7.out); have Q8 := Lib.hid (row_below e8 Q7.out); have I8 := Lib.hid (I7.out.kept e8); have J8 := Lib.hid (J7.out.kept e8); have HR := Lib.hid (HPS.out Ab cb w8 rb); clear r7b n7 o8 g8 e8 rb H7 G7 C7 X7 P7 Q7 I7 J7)
    | (go_at_call 10; (with_reducible refine HR.out.mono ?_); rintro e wc ⟨rfl, bc⟩; clear HR; have Hc := Lib.hid (H8.out.kept bc); have Gc := Lib.hid (G8.out.kept bc); have Cc := Lib.hid (C8.out.trans (bc.mono C8.out.size)); have Xc := Lib.hid (row_below bc X8.out); have Pc := Lib.hid (row_below bc P8.out); have Qc := Lib.hid (row_below bc Q8.out); have Ic := Lib.hid (I8.out.kept bc); have Jc := Lib.hid (J8.out.kept bc); clear bc H8 G8 C8 X8 P8 Q8 I8 J8; have hnec := has_new wc 27 zeroR.cells)
    | (refine wpList_row rfl 27 _ _ rfl wc.heap.size RS.cells rfl rfl 27 _ hnec (size27 _) rfl (rp_all _) ?_; intro wd hsd ond; have Hd := Lib.hid (has_on Hc.out ond); have Gd := Lib.hid (has_on Gc.out ond); have Cd := Lib.hid (below_on Cc.out Cc.out.size ond); have Xd := Lib.hid (row_on Xc.out ond); have Pd := Lib.hid (row_on Pc.out ond); have Qd := Lib.hid (row_on Qc.out ond); have Id := Lib.hid (has_on Ic.out ond); have Jd := Lib.hid (has_on Jc.out ond); have Kd := Lib.hid hsd; clear hsd ond hnec Hc Gc Cc Xc Pc Qc Ic Jc; have HR := Lib.hid (HDS.out A1 c1 wd (row_lt HZW.out (Nat.le_refl _) Cd.out) hc1))
    | (go_at_call 11; (with_reducible refine HR.out.mono ?_); rintro e we ⟨rfl, be⟩; clear HR; have He := Lib.hid (Hd.out.kept be); have Ge := Lib.hid (Gd.out.kept be); have Ce := Lib.hid (Cd.out.trans (be.mono Cd.out.size)); have Xe := Lib.hid (row_below be Xd.out); have Pe := Lib.hid (row_below be Pd.out); have Qe := Lib.hid (row_below be Qd.out); have Ie := Lib.hid (Id.out.kept be); have Je := Lib.hid (Jd.out.kept be); have Ke := Lib.hid (Kd.out.kept be); clear be Hd Gd Cd Xd Pd Qd Id Jd Kd; have hnee := has_new we 27 zeroR.cells)
    | (refine wpList_row rfl 27 _ _ rfl we.heap.size RS.cells rfl rfl 27 _ hnee (size27 _) rfl (rp_all _) ?_; intro w9 hs9 on9; have H9 := Lib.hid (has_on He.out on9); have G9 := Lib.hid (has_on Ge.out on9); have C9 := Lib.hid (below_on Ce.out Ce.out.size on9); have X9 := Lib.hid (row_on Xe.out on9); have P9 := Lib.hid (row_on Pe.out on9); have Q9 := Lib.hid (row_on Qe.out on9); have I9 := Lib.hid (has_on Ie.out on9); have J9 := Lib.hid (has_on Je.out on9); have K9 := Lib.hid (has_on Ke.out on9); have M9 := Lib.hid hs9; clear hs9 on9 hnee He Ge Ce Xe Pe Qe Ie Je Ke))
  have bd : Below w9.heap.size w9 w9.drew := (Below.refl _ _).drew
  have SQ := Lib.hid (fun (W : World) (hW : Below w9.drew.heap.size w9.drew W) => ld24 ((H9.out.kept bd).kept hW))
  have SA := Lib.hid (fun (W : World) (hW : Below w9.drew.heap.size w9.drew W) => ld24 ((I9.out.kept bd).kept hW))
  have SC := Lib.hid (fun (W : World) (hW : Below w9.drew.heap.size w9.drew W) => ld24 ((J9.out.kept bd).kept hW))
  have SR := Lib.hid (fun (W : World) (hW : Below w9.drew.heap.size w9.drew W) => ld27 ((G9.out.kept bd).kept hW))
  have SS := Lib.hid (fun (W : World) (hW : Below w9.drew.heap.size w9.drew W) => ld27 ((K9.out.kept bd).kept hW))
  have ST := Lib.hid (fun (W : World) (hW : Below w9.drew.heap.size w9.drew W) => ld27 ((M9.out.kept bd).kept hW))
  have VX := Lib.hid (fun (W : World) (hW : Below w9.drew.heap.size w9.drew W) => conv_row (c := c2) (row_below hW (row_below bd X9.out)))
  have CD := Lib.hid (C9.out.trans (bd.mono C9.out.size))
  have RQ := Lib.hid (fun (W : World) (hW : Below w9.drew.heap.size w9.drew W) => row_lt HRW.out (Nat.le_refl _) (CD.out.trans (hW.mono CD.out.size)))
  have HSM := Lib.hid (fun (W : World) (hW : Below w9.drew.heap.size w9.drew W) => same_any TK TN A3 LB c3 A5 c5 TB W (row_below hW (row_below bd P9.out)) (row_below hW (row_below bd Q9.out)))
  have HXD := Lib.hid (row_below bd X9.out)
  have HQD := Lib.hid (H9.out.kept bd)
  have HS0 := Lib.hid (Below.refl w9.drew.heap.size w9.drew)
  clear bd C9 H9 G9 X9 P9 Q9 I9 J9 K9 M9 HPS HDS HDR HZW HL1
  refine wp_region_held_drew (S := fun W => Below w9.drew.heap.size w9.drew W) (by kernel_rfl) HS0.out ?_
  intro _
  refine wpAnyH_take (i := 0) (v := .slice A2 LX c2) rfl (by kernel_rfl) (by kernel_rfl) (by kernel_rfl) (fun _ _ _ h => h) (Or.inl ⟨by rfl, (fun W _ => by go_simp)⟩) HS0.out ?_
  simp only [List.getElem_toArray, List.getElem_cons_succ, List.getElem_cons_zero, Act.put, List.setIfInBounds_toArray, List.set_cons_zero, List.set_cons_succ]
  refine wpAnyH_take (i := 1) (v := .string (strOfNums X)) rfl (by kernel_rfl) (by kernel_rfl) (by kernel_rfl) (fun _ _ _ h => h) (Or.inl ⟨by rfl, (fun W hW => by have hcv := VX.out W (hW); go_simp)⟩) HS0.out ?_
  simp only [List.getElem_toArray, List.getElem_cons_succ, List.getElem_cons_zero, Act.put, List.setIfInBounds_toArray, List.set_cons_zero, List.set_cons_succ]
  refine wpAnyH_take (i := 2) (v := .agg (qc k n (.slice A l c))) rfl (by kernel_rfl) (by kernel_rfl) (by kernel_rfl) (fun _ _ _ h => h) (yields_ld (by rfl) 24 (.tmp 3) rfl _ _ (fun W hW => SQ.out W (hW)) rfl) HS0.out ?_
  simp only [List.getElem_toArray, List.getElem_cons_succ, List.getElem_cons_zero, Act.put, List.setIfInBounds_toArray, List.set_cons_zero, List.set_cons_succ]
  refine wpAnyH_ready (rs := [3]) (by kernel_rfl) (by simp) ?_
  refine AllReadyH.cons rfl (fun K hK => ?_) AllReadyH.nil
  go_simp
  refine (HDB.out w9.drew (RQ.out _ HS0.out)).mono ?_
  rintro e x1 ⟨y1, rfl, p1, f1⟩
  obtain ⟨B1, d1, rfl, _, r1, _⟩ := p1.form
  have HS1 := Lib.hid (show Below w9.drew.heap.size w9.drew x1 from f1)
  have HR1 := Lib.hid r1
  clear p1 f1 r1
  refine hK.out _ _ HS1.out (fun _ => ?_)
  clear hK K
  have HT1 := Lib.hid (Below.refl x1.heap.size x1)
  refine wpAnyH_strong (S' := fun W => Below x1.heap.size x1 W) (fun W h => HS1.out.trans (h.mono HS1.out.size)) _ _ _ _ ?_
  have V1 := Lib.hid (fun W (hW : Below x1.heap.size x1 W) => conv_row (c := d1) (row_below hW HR1.out))
  have U1 := Lib.hid (fun W (hW : Below x1.heap.size x1 W) => show Below w9.drew.heap.size w9.drew W from HS1.out.trans (hW.mono HS1.out.size))
  refine wpAnyH_take (i := 4) (v := .string (strOfNums X)) rfl (by kernel_rfl) (by kernel_rfl) (by kernel_rfl) (fun _ _ _ h => h) (Or.inl ⟨by rfl, (fun W hW => by have hcv := V1.out W (hW); go_simp)⟩) HT1.out ?_
  simp only [List.getElem_toArray, List.getElem_cons_succ, List.getElem_cons_zero, Act.put, List.setIfInBounds_toArray, List.set_cons_zero, List.set_cons_succ]
  refine wpAnyH_take (i := 5) (v := .bool false) rfl (by kernel_rfl) (by kernel_rfl) (by kernel_rfl) (fun _ _ _ h => h) (Or.inl ⟨by rfl, (fun W _ => by go_simp)⟩) HT1.out ?_
  simp only [List.getElem_toArray, List.getElem_cons_succ, List.getElem_cons_zero, Act.put, List.setIfInBounds_toArray, List.set_cons_zero, List.set_cons_succ]
  refine wpAnyH_take (i := 6) (v := .bool false) rfl (by kernel_rfl) (by kernel_rfl) (by kernel_rfl) (fun _ _ _ h => h) (Or.inl ⟨by rfl, (fun W _ => by go_simp)⟩) HT1.out ?_
  simp only [List.getElem_toArray, List.getElem_cons_succ, List.getElem_cons_zero, Act.put, List.setIfInBounds_toArray, List.set_cons_zero, List.set_cons_succ]
  refine wpAnyH_take (i := 7) (v := .agg (qc TK TN (.slice A3 LB c3))) rfl (by kernel_rfl) (by kernel_rfl) (by kernel_rfl) (fun _ _ _ h => h) (yields_ld (by rfl) 24 (.tmp 9) rfl _ _ (fun W hW => SA.out W (U1.out W hW)) rfl) HT1.out ?_
  simp only [List.getElem_toArray, List.getElem_cons_succ, List.getElem_cons_zero, Act.put, List.setIfInBounds_toArray, List.set_cons_zero, List.set_cons_succ]
  refine wpAnyH_take (i := 8) (v := .agg (qc TK TN (.slice A5 LB c5))) rfl (by kernel_rfl) (by kernel_rfl) (by kernel_rfl) (fun _ _ _ h => h) (yields_ld (by rfl) 24 (.tmp 11) rfl _ _ (fun W hW => SC.out W (U1.out W hW)) rfl) HT1.out ?_
  simp only [List.getElem_toArray, List.getElem_cons_succ, List.getElem_cons_zero, Act.put, List.setIfInBounds_toArray, List.set_cons_zero, List.set_cons_succ]
  refine wpAnyH_ready (rs := [9]) (by kernel_rfl) (by simp) ?_
  refine AllReadyH.cons rfl (fun K hK => ?_) AllReadyH.nil
  go_simp
  refine (HSM.out x1 (U1.out _ HT1.out)).mono ?_
  rintro e x2 ⟨rfl, f2⟩; have HT2 := Lib.hid (show Below x1.heap.size x1 x2 from f2); clear f2
  refine hK.out _ _ HT2.out (fun _ => ?_)
  clear hK K
  refine wpAnyH_take (i := 10) (v := .bool false) rfl (by kernel_rfl) (by kernel_rfl) (by kernel_rfl) (fun _ _ _ h => h) (Or.inl ⟨by rfl, (fun W _ => by go_simp)⟩) HT2.out ?_
  simp only [List.getElem_toArray, List.getElem_cons_succ, List.getElem_cons_zero, Act.put, List.setIfInBounds_toArray, List.set_cons_zero, List.set_cons_succ]
  refine wpAnyH_take (i := 11) (v := .bool false) rfl (by kernel_rfl) (by kernel_rfl) (by kernel_rfl) (fun _ _ _ h => h) (Or.inl ⟨by rfl, (fun W _ => by go_simp)⟩) HT2.out ?_
  simp only [List.getElem_toArray, List.getElem_cons_succ, List.getElem_cons_zero, Act.put, List.setIfInBounds_toArray, List.set_cons_zero, List.set_cons_succ]
  refine wpAnyH_take (i := 12) (v := .bool false) rfl (by kernel_rfl) (by kernel_rfl) (by kernel_rfl) (fun _ _ _ h => h) (Or.inl ⟨by rfl, (fun W _ => by go_simp)⟩) HT2.out ?_
  simp only [List.getElem_toArray, List.getElem_cons_succ, List.getElem_cons_zero, Act.put, List.setIfInBounds_toArray, List.set_cons_zero, List.set_cons_succ]
  refine wpAnyH_take (i := 13) (v := .int .i64 TE) rfl (by kernel_rfl) (by kernel_rfl) (by kernel_rfl) (fun _ _ _ h => h) (Or.inl ⟨by rfl, (fun W _ => by go_simp)⟩) HT2.out ?_
  simp only [List.getElem_toArray, List.getElem_cons_succ, List.getElem_cons_zero, Act.put, List.setIfInBounds_toArray, List.set_cons_zero, List.set_cons_succ]
  refine wpAnyH_take (i := 15) (v := .int .i64 TE) rfl (by kernel_rfl) (by kernel_rfl) (by kernel_rfl) (fun _ _ _ h => h) (Or.inl ⟨by rfl, (fun W _ => by go_simp)⟩) HT2.out ?_
  simp only [List.getElem_toArray, List.getElem_cons_succ, List.getElem_cons_zero, Act.put, List.setIfInBounds_toArray, List.set_cons_zero, List.set_cons_succ]
  refine wpAnyH_ready (rs := [14]) (by kernel_rfl) (by simp) ?_
  refine AllReadyH.cons rfl (fun K hK => ?_) AllReadyH.nil
  go_simp
  refine (num_any' _ _).mono ?_
  rintro e x3 ⟨rfl, rfl⟩
  refine hK.out _ _ HT2.out (fun _ => ?_)
  clear hK K
  refine wpAnyH_take (i := 16) (v := .bool false) rfl (by kernel_rfl) (by kernel_rfl) (by kernel_rfl) (fun _ _ _ h => h) (Or.inl ⟨by rfl, (fun W _ => by go_simp)⟩) HT2.out ?_
  simp only [List.getElem_toArray, List.getElem_cons_succ, List.getElem_cons_zero, Act.put, List.setIfInBounds_toArray, List.set_cons_zero, List.set_cons_succ]
  refine wpAnyH_take (i := 17) (v := .bool false) rfl (by kernel_rfl) (by kernel_rfl) (by kernel_rfl) (fun _ _ _ h => h) (Or.inl ⟨by rfl, (fun W _ => by go_simp)⟩) HT2.out ?_
  simp only [List.getElem_toArray, List.getElem_cons_succ, List.getElem_cons_zero, Act.put, List.setIfInBounds_toArray, List.set_cons_zero, List.set_cons_succ]
  refine wpAnyH_take (i := 18) (v := .bool false) rfl (by kernel_rfl) (by kernel_rfl) (by kernel_rfl) (fun _ _ _ h => h) (Or.inl ⟨by rfl, (fun W _ => by go_simp)⟩) HT2.out ?_
  simp only [List.getElem_toArray, List.getElem_cons_succ, List.getElem_cons_zero, Act.put, List.setIfInBounds_toArray, List.set_cons_zero, List.set_cons_succ]
  refine wpAnyH_take (i := 19) (v := .agg r.cells) rfl (by kernel_rfl) (by kernel_rfl) (by kernel_rfl) (fun _ _ _ h => h) (yields_ld (by rfl) 27 (.tmp 4) rfl _ _ (fun W hW => SR.out W (U1.out W hW)) rfl) HT2.out ?_
  simp only [List.getElem_toArray, List.getElem_cons_succ, List.getElem_cons_zero, Act.put, List.setIfInBounds_toArray, List.set_cons_zero, List.set_cons_succ]
  refine wpAnyH_take (i := 22) (v := .agg r.cells) rfl (by kernel_rfl) (by kernel_rfl) (by kernel_rfl) (fun _ _ _ h => h) (yields_ld (by rfl) 27 (.tmp 4) rfl _ _ (fun W hW => SR.out W (U1.out W hW)) rfl) HT2.out ?_
  simp only [List.getElem_toArray, List.getElem_cons_succ, List.getElem_cons_zero, Act.put, List.setIfInBounds_toArray, List.set_cons_zero, List.set_cons_succ]
  refine wpAnyH_ready (rs := [20]) (by kernel_rfl) (by simp) ?_
  refine AllReadyH.cons rfl (fun K hK => ?_) AllReadyH.nil
  go_simp
  refine (HPA.out x2).mono ?_
  rintro e x4 ⟨y4, rfl, p4, f4⟩
  obtain ⟨B4, d4, rfl, _, r4, _⟩ := p4.form
  have HS4 := Lib.hid (show Below x1.heap.size x1 x4 from HT2.out.trans (f4.mono HT2.out.size))
  have HR4 := Lib.hid r4
  clear p4 f4 r4
  refine hK.out _ _ HS4.out (fun _ => ?_)
  clear hK K
  have HT4 := Lib.hid (Below.refl x4.heap.size x4)
  refine wpAnyH_strong (S' := fun W => Below x4.heap.size x4 W) (fun W h => HS4.out.trans (h.mono HS4.out.size)) _ _ _ _ ?_
  have V4 := Lib.hid (fun W (hW : Below x4.heap.size x4 W) => conv_row (c := d4) (row_below hW HR4.out))
  have U4 := Lib.hid (fun W (hW : Below x4.heap.size x4 W) => show Below w9.drew.heap.size w9.drew W from U1.out W (HS4.out.trans (hW.mono HS4.out.size)))
  refine wpAnyH_take (i := 21) (v := .string (strOfNums Y)) rfl (by kernel_rfl) (by kernel_rfl) (by kernel_rfl) (fun _ _ _ h => h) (Or.inl ⟨by rfl, (fun W hW => by have hcv := V4.out W (hW); go_simp)⟩) HT4.out ?_
  simp only [List.getElem_toArray, List.getElem_cons_succ, List.getElem_cons_zero, Act.put, List.setIfInBounds_toArray, List.set_cons_zero, List.set_cons_succ]
  refine wpAnyH_ready (rs := [23]) (by kernel_rfl) (by simp) ?_
  refine AllReadyH.cons rfl (fun K hK => ?_) AllReadyH.nil
  go_simp
  refine (HDA.out x4).mono ?_
  rintro e x5 ⟨y5, rfl, p5, f5⟩
  obtain ⟨B5, d5, rfl, _, r5, _⟩ := p5.form
  have HS5 := Lib.hid (show Below x4.heap.size x4 x5 from f5)
  have HR5 := Lib.hid r5
  clear p5 f5 r5
  refine hK.out _ _ HS5.out (fun _ => ?_)
  clear hK K
  have HT5 := Lib.hid (Below.refl x5.heap.size x5)
  refine wpAnyH_strong (S' := fun W => Below x5.heap.size x5 W) (fun W h => HS5.out.trans (h.mono HS5.out.size)) _ _ _ _ ?_
  have V5 := Lib.hid (fun W (hW : Below x5.heap.size x5 W) => conv_row (c := d5) (row_below hW HR5.out))
  have U5 := Lib.hid (fun W (hW : Below x5.heap.size x5 W) => show Below w9.drew.heap.size w9.drew W from U4.out W (HS5.out.trans (hW.mono HS5.out.size)))
  refine wpAnyH_take (i := 24) (v := .string (strOfNums Y)) rfl (by kernel_rfl) (by kernel_rfl) (by kernel_rfl) (fun _ _ _ h => h) (Or.inl ⟨by rfl, (fun W hW => by have hcv := V5.out W (hW); go_simp)⟩) HT5.out ?_
  simp only [List.getElem_toArray, List.getElem_cons_succ, List.getElem_cons_zero, Act.put, List.setIfInBounds_toArray, List.set_cons_zero, List.set_cons_succ]
  refine wpAnyH_take (i := 25) (v := .bool false) rfl (by kernel_rfl) (by kernel_rfl) (by kernel_rfl) (fun _ _ _ h => h) (Or.inl ⟨by rfl, (fun W _ => by go_simp)⟩) HT5.out ?_
  simp only [List.getElem_toArray, List.getElem_cons_succ, List.getElem_cons_zero, Act.put, List.setIfInBounds_toArray, List.set_cons_zero, List.set_cons_succ]
  refine wpAnyH_take (i := 26) (v := .bool false) rfl (by kernel_rfl) (by kernel_rfl) (by kernel_rfl) (fun _ _ _ h => h) (Or.inl ⟨by rfl, (fun W _ => by go_simp)⟩) HT5.out ?_
  simp only [List.getElem_toArray, List.getElem_cons_succ, List.getElem_cons_zero, Act.put, List.setIfInBounds_toArray, List.set_cons_zero, List.set_cons_succ]
  refine wpAnyH_take (i := 27) (v := .bool false) rfl (by kernel_rfl) (by kernel_rfl) (by kernel_rfl) (fun _ _ _ h => h) (Or.inl ⟨by rfl, (fun W _ => by go_simp)⟩) HT5.out ?_
  simp only [List.getElem_toArray, List.getElem_cons_succ, List.getElem_cons_zero, Act.put, List.setIfInBounds_toArray, List.set_cons_zero, List.set_cons_succ]
  refine wpAnyH_take (i := 28) (v := .agg RS.cells) rfl (by kernel_rfl) (by kernel_rfl) (by kernel_rfl) (fun _ _ _ h => h) (yields_ld (by rfl) 27 (.tmp 13) rfl _ _ (fun W hW => SS.out W (U5.out W hW)) rfl) HT5.out ?_
  simp only [List.getElem_toArray, List.getElem_cons_succ, List.getElem_cons_zero, Act.put, List.setIfInBounds_toArray, List.set_cons_zero, List.set_cons_succ]
  refine wpAnyH_take (i := 29) (v := .agg RS.cells) rfl (by kernel_rfl) (by kernel_rfl) (by kernel_rfl) (fun _ _ _ h => h) (yields_ld (by rfl) 27 (.tmp 15) rfl _ _ (fun W hW => ST.out W (U5.out W hW)) rfl) HT5.out ?_
  simp only [List.getElem_toArray, List.getElem_cons_succ, List.getElem_cons_zero, Act.put, List.setIfInBounds_toArray, List.set_cons_zero, List.set_cons_succ]
  refine wpAnyH_take (i := 30) (v := .bool false) rfl (by kernel_rfl) (by kernel_rfl) (by kernel_rfl) (fun _ _ _ h => h) (yields_neq27 (by rfl) (.tmp 86) (.tmp 87) rfl RS rfl rfl) HT5.out ?_
  simp only [List.getElem_toArray, List.getElem_cons_succ, List.getElem_cons_zero, Act.put, List.setIfInBounds_toArray, List.set_cons_zero, List.set_cons_succ]
  refine wpAnyH_take (i := 31) (v := .bool false) rfl (by kernel_rfl) (by kernel_rfl) (by kernel_rfl) (fun _ _ _ h => h) (Or.inl ⟨by rfl, (fun W _ => by go_simp)⟩) HT5.out ?_
  simp only [List.getElem_toArray, List.getElem_cons_succ, List.getElem_cons_zero, Act.put, List.setIfInBounds_toArray, List.set_cons_zero, List.set_cons_succ]
  refine wpAnyH_take (i := 32) (v := .bool false) rfl (by kernel_rfl) (by kernel_rfl) (by kernel_rfl) (fun _ _ _ h => h) (Or.inl ⟨by rfl, (fun W _ => by go_simp)⟩) HT5.out ?_
  simp only [List.getElem_toArray, List.getElem_cons_succ, List.getElem_cons_zero, Act.put, List.setIfInBounds_toArray, List.set_cons_zero, List.set_cons_succ]
  refine wpAnyH_take (i := 33) (v := .int .i64 RE) rfl (by kernel_rfl) (by kernel_rfl) (by kernel_rfl) (fun _ _ _ h => h) (Or.inl ⟨by rfl, (fun W _ => by go_simp)⟩) HT5.out ?_
  simp only [List.getElem_toArray, List.getElem_cons_succ, List.getElem_cons_zero, Act.put, List.setIfInBounds_toArray, List.set_cons_zero, List.set_cons_succ]
  refine wpAnyH_take (i := 35) (v := .int .i64 RE) rfl (by kernel_rfl) (by kernel_rfl) (by kernel_rfl) (fun _ _ _ h => h) (Or.inl ⟨by rfl, (fun W _ => by go_simp)⟩) HT5.out ?_
  simp only [List.getElem_toArray, List.getElem_cons_succ, List.getElem_cons_zero, Act.put, List.setIfInBounds_toArray, List.set_cons_zero, List.set_cons_succ]
  refine wpAnyH_ready (rs := [34]) (by kernel_rfl) (by simp) ?_
  refine AllReadyH.cons rfl (fun K hK => ?_) AllReadyH.nil
  go_simp
  refine (num_any' _ _).mono ?_
  rintro e x6 ⟨rfl, rfl⟩
  refine hK.out _ _ HT5.out (fun _ => ?_)
  clear hK K
  refine wpAnyH_take (i := 36) (v := .bool false) rfl (by kernel_rfl) (by kernel_rfl) (by kernel_rfl) (fun _ _ _ h => h) (Or.inl ⟨by rfl, (fun W _ => by go_simp)⟩) HT5.out ?_
  simp only [List.getElem_toArray, List.getElem_cons_succ, List.getElem_cons_zero, Act.put, List.setIfInBounds_toArray, List.set_cons_zero, List.set_cons_succ]
  refine wpAnyH_take (i := 37) (v := .bool false) rfl (by kernel_rfl) (by kernel_rfl) (by kernel_rfl) (fun _ _ _ h => h) (Or.inl ⟨by rfl, (fun W _ => by go_simp)⟩) HT5.out ?_
  simp only [List.getElem_toArray, List.getElem_cons_succ, List.getElem_cons_zero, Act.put, List.setIfInBounds_toArray, List.set_cons_zero, List.set_cons_succ]
  refine wpAnyH_done (by kernel_rfl) ?_ _
  have BX := Lib.hid (U5.out x5 HT5.out)
  have CX := Lib.hid (CD.out.trans (BX.out.mono CD.out.size))
  have QX := Lib.hid (HQD.out.kept BX.out)
  have RX := Lib.hid (row_below BX.out HXD.out)
  clear HS0 HS1 HT1 HT2 HS4 HT4 HS5 HT5 SQ SA SC SR SS ST VX V1 V4 V5 U1 U4 U5 HR1 HR4 HR5 HSM HDB HPA HDA HPR RQ HXD HQD CD BX
  by_cases h0 : LX = 0
  · subst h0
    go_wp2
    go_ret
    exact ⟨rfl, CX.out⟩
  · have hb0 : ((LX : Int) == 0) = false := by rw [beq_eq_false_iff_ne]; omega
    have hq : reqB k n bs.length = true := by
      cases h : reqB k n bs.length with
      | true => rfl
      | false =>
        have h1 := HXE.out
        unfold reqOut at h1
        rw [h, if_neg (by simp)] at h1
        have h2 := HXL.out
        rw [← h1] at h2
        exact absurd h2.symm h0
    have hX2 : reqL k n bs = X := by
      have h1 := HXE.out
      unfold reqOut at h1
      rwa [if_pos hq] at h1
    obtain ⟨gd, gk, gn, gb⟩ := req_back hq
    rw [hX2] at gd gk gn gb
    have hlx : LX ≤ 1007 := by
      have h1 := HXL.out
      have h2 := req_len k n bs
      have h3 := req_in hq
      rw [hX2] at h2
      omega
    have hbl := HRW.out.1
    have HRR := Lib.hid (show Calls Try.prog 8 #[.slice A2 LX c2] x5 (IsQ k n 0 bs x5) from (read_any A2 LX c2 X x5 RX.out (by omega)).mono fun e w' hx => readsq_of (by unfold toldK; rw [if_pos gd, gk]) (by unfold toldN; rw [if_pos gd, gn]) (by unfold toldE; rw [if_pos gd]) (by unfold toldB; rw [if_pos gd, gb]) hx)
    have HBL := Lib.hid hbl
    clear gd gk gn gb hX2 hq hbl
    go_wp2_with (first
      | (go_at_call 8; (with_reducible refine HRR.out.mono ?_); rintro e y1 ⟨A7, c7, rfl, hc7, u7, b7⟩; clear HRR; rw [HBL.out] at u7; rw [HBL.out]; have r7 := row_own u7; have D1 := Lib.hid (CX.out.trans (b7.mono CX.out.size)); have Q1 := Lib.hid (QX.out.kept b7); have R1 := Lib.hid r7; clear u7 r7 b7 QX CX; have hne7 := has_new y1 24 (qc 0 0 nilV))
      | (refine wpList_row rfl 24 _ _ rfl y1.heap.size (qc k n (.slice A7 l c7)) rfl rfl 24 _ hne7 (size24 _ _ _) rfl (qc_all _ _ _ _ _) ?_; intro y2 hs2 on2; have D2 := Lib.hid (below_on D1.out D1.out.size on2); have Q2 := Lib.hid (ld24 (has_on Q1.out on2)); have R2 := Lib.hid (row_on R1.out on2); have I2 := Lib.hid (ld24 hs2); clear hs2 on2 hne7 D1 Q1 R1; have HSM2 := Lib.hid (same_any k n A7 l c7 A c bs y2 R2.out (row_lt HRW.out (Nat.le_refl _) D2.out)))
      | (go_at_call 14; (with_reducible refine (num_any' _ _).mono ?_); rintro e wn ⟨rfl, rfl⟩)
      | (refine wpList_ld 24 _ rfl _ _ I2.out rfl rfl ?_)
      | (refine wpList_ld 24 _ rfl _ _ Q2.out rfl rfl ?_)
      | (go_at_call 13; (with_reducible refine HSM2.out.mono ?_); rintro e y3 ⟨rfl, b3⟩; have D3 := Lib.hid (D2.out.trans (b3.mono D2.out.size)); clear b3))
    go_ret
    exact ⟨rfl, D3.out⟩
end Go.Proofs.Ytjfgnoidoeaaeaa.requestTells
