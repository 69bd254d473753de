/-
  A manifest with its tag, the program's Bytes and the document's own; conditions: as for Body; the key reads as bytes; the tables lie as they were laid.
-/
import Derived.Test.YtjfalnhmmofdfaaDoorBd
import Derived.Test.YtjfalnhmmofdfaaDoorShaRtag
namespace Go.Proofs.YtjfalnhmmofdfaaDoor
open Go.RowKit
set_option linter.unusedVariables false
set_option linter.unusedSimpArgs false

theorem byteL_is (ks : List Int) (m : Mn) : byteL ks m = bodyL m ++ Sha.tagI ks (bodyL m) := rfl
theorem tag_byt {ks bs : List Int} (hk : Byt ks) (hb : Byt bs) : Byt (Sha.tagI ks bs) := Sha.byt_sha (Sha.byt_app (Sha.byt_keyed hk (by omega)) (Sha.byt_sha (Sha.byt_app (Sha.byt_keyed hk (by omega)) hb)))
set_option maxRecDepth 100000 in
set_option maxHeartbeats 1000000 in
theorem mbytes_any (a : Option Addr) (n cap : Nat) (ks : List Int) (m : Mn) (w : World) (hk : Row w a n ks) (hcap : n ≤ cap) (hn : n ≤ 1000000) (hm : m.Ok) (ht : Sha.Tabs w) :
    Calls Tryd.prog 12 #[.slice a n cap, .agg m.cells] w (Gives 92 (byteL ks m) w) := by
  have hz2 := Sha.zero24_run
  have ba : Below w.heap.size w (w.alloc (.cells m.cells 27)) := (Below.refl _ _).alloc (Nat.le_refl _) _
  have h0 := has_new w 27 m.cells
  have hl := Lib.hid hm.1
  have HB := Lib.hid (body_any m (w.alloc (.cells m.cells 27)) hm)
  have HBY := Lib.hid (tag_byt hk.2.1 (body_byt hm.2.1))
  have HTL := Lib.hid (Sha.tag_len ks (bodyL m))
  clear hm
  rw [byteL_is]
  go_enter Tryd.func12, Tryd.ntmps12
  go_wp2_with (first
    | (refine wpList_load_row rfl 27 _ rfl w.heap.size rfl 27 _ (0, 0) _ h0 Tryd.underlying27 rfl (size27 hl.out) ?_)
    | (go_at_call 10; (with_reducible refine HB.out.mono ?_); rintro e w1 ⟨v1, rfl, o1, b1⟩; clear HB; have b1' := ba.trans (b1.mono ba.size); have o1' := o1.lower ba.size; obtain ⟨A1, c1, rfl, hc1, r1, _⟩ := o1.form; have HT := Lib.hid (Sha.tag_any a n cap ks A1 60 c1 (bodyL m) w1 (row_sha (row_below b1' hk)) (row_sha r1) hcap hc1 (ht.kept b1') hn (by omega)))
    | (go_at_call 34; (with_reducible refine HT.out.mono ?_); rintro e w2 ⟨rfl, b2⟩; clear HT; have b2' := b1'.trans (b2.mono b1'.size); have o2 := o1'.kept b2; have hne := has_new w2 23 Sha.zero24)
    | (refine Sha.wpList_row rfl 23 _ _ rfl w2.heap.size (Sha.nums (Sha.tagI ks (bodyL m))).toArray rfl rfl 23 _ hne (Sha.size24 HTL.out) (by rw [Sha.zero24_size, List.size_toArray, Sha.nums_len, HTL.out]) (Sha.nums_all _) ?_; intro w3 hs3 hon3; have b3 := Sha.below_only (b2'.alloc b2'.size (.cells Sha.zero24 23)) hon3 b2'.size (b2'.alloc b2'.size (.cells Sha.zero24 23)).size; have o3 : Own w3 w.heap.size (.slice A1 60 c1) 60 (bodyL m) := (o2.kept ((Below.refl _ _).alloc (Nat.le_refl _) (.cells Sha.zero24 23))).stay (fun g hg => hon3.block g (by have := o2.lt g hg; simp; omega) (by have := o2.lt g hg; intro e; injection e; omega)); have r3 : Row w3 (some ⟨w2.heap.size, 0, none⟩) 32 (Sha.tagI ks (bodyL m)) := sha_row (Sha.has_row hs3 HTL.out HBY.out))
    | (at_builtin; refine wpList_app rfl _ _ rfl w.heap.size _ _ _ rfl o3 _ _ _ _ rfl r3 (row_none r3) (by omega) b3.size ?_; intro v4 w4 o4 g4; have b4 := below_own b3 o3 g4 (Nat.le_refl _) b3.size; obtain ⟨A4, c4, rfl, _, _, _⟩ := o4.form))
  go_ret
  exact ⟨_, rfl, o4, b4⟩
set_option maxRecDepth 100000 in
set_option maxHeartbeats 1000000 in
theorem rmbytes_any (a : Option Addr) (n cap : Nat) (ks : List Int) (m : Mn) (w : World) (hk : Row w a n ks) (hcap : n ≤ cap) (hn : n ≤ 1000000) (hm : m.Ok) :
    Calls Tryd.prog 13 #[.slice a n cap, .agg m.cells] w (Gives 92 (byteL ks m) w) := by
  have hz2 := Sha.zero24_run
  have ba : Below w.heap.size w (w.alloc (.cells m.cells 27)) := (Below.refl _ _).alloc (Nat.le_refl _) _
  have h0 := has_new w 27 m.cells
  have hl := Lib.hid hm.1
  have HB := Lib.hid (rbody_any m (w.alloc (.cells m.cells 27)) hm)
  have HBY := Lib.hid (tag_byt hk.2.1 (body_byt hm.2.1))
  have HTL := Lib.hid (Sha.tag_len ks (bodyL m))
  clear hm
  rw [byteL_is]
  go_enter Tryd.func13, Tryd.ntmps13
  go_wp2_with (first
    | (refine wpList_load_row rfl 27 _ rfl w.heap.size rfl 27 _ (0, 0) _ h0 Tryd.underlying27 rfl (size27 hl.out) ?_)
    | (go_at_call 11; (with_reducible refine HB.out.mono ?_); rintro e w1 ⟨v1, rfl, o1, b1⟩; clear HB; have b1' := ba.trans (b1.mono ba.size); have o1' := o1.lower ba.size; obtain ⟨A1, c1, rfl, hc1, r1, _⟩ := o1.form; have HT := Lib.hid (Sha.rtag_any a n cap ks A1 60 c1 (bodyL m) w1 (row_sha (row_below b1' hk)) (row_sha r1) hcap hc1 hn (by omega)))
    | (go_at_call 18; (with_reducible refine HT.out.mono ?_); rintro e w2 ⟨rfl, b2⟩; clear HT; have b2' := b1'.trans (b2.mono b1'.size); have o2 := o1'.kept b2; have hne := has_new w2 23 Sha.zero24)
    | (refine Sha.wpList_row rfl 23 _ _ rfl w2.heap.size (Sha.nums (Sha.tagI ks (bodyL m))).toArray rfl rfl 23 _ hne (Sha.size24 HTL.out) (by rw [Sha.zero24_size, List.size_toArray, Sha.nums_len, HTL.out]) (Sha.nums_all _) ?_; intro w3 hs3 hon3; have b3 := Sha.below_only (b2'.alloc b2'.size (.cells Sha.zero24 23)) hon3 b2'.size (b2'.alloc b2'.size (.cells Sha.zero24 23)).size; have o3 : Own w3 w.heap.size (.slice A1 60 c1) 60 (bodyL m) := (o2.kept ((Below.refl _ _).alloc (Nat.le_refl _) (.cells Sha.zero24 23))).stay (fun g hg => hon3.block g (by have := o2.lt g hg; simp; omega) (by have := o2.lt g hg; intro e; injection e; omega)); have r3 : Row w3 (some ⟨w2.heap.size, 0, none⟩) 32 (Sha.tagI ks (bodyL m)) := sha_row (Sha.has_row hs3 HTL.out HBY.out))
    | (at_builtin; refine wpList_app rfl _ _ rfl w.heap.size _ _ _ rfl o3 _ _ _ _ rfl r3 (row_none r3) (by omega) b3.size ?_; intro v4 w4 o4 g4; have b4 := below_own b3 o3 g4 (Nat.le_refl _) b3.size; obtain ⟨A4, c4, rfl, _, _, _⟩ := o4.form))
  go_ret
  exact ⟨_, rfl, o4, b4⟩
end Go.Proofs.YtjfalnhmmofdfaaDoor
