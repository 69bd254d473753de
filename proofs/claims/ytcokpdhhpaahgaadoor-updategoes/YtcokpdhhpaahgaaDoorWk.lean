/-
  The walk of the law UpdateGoes: an image that is allowed is tried and confirmed, or given up; conditions: none.
-/
import Derived.Test.YtcokpdhhpaahgaaDoorWi0
import Derived.Test.YtcokpdhhpaahgaaDoorWi1
namespace Go.Proofs.YtcokpdhhpaahgaaDoor.updateGoes
open Go.RowKit Go.ChangeShapes Go.WideShapes Go.ChangeAt
set_option linter.unusedVariables false
set_option linter.unusedSimpArgs false

set_option maxRecDepth 100000 in
set_option maxHeartbeats 40000000 in
theorem walk (m : Mt) (name : ByteArray) (x : Im) (boots : Int) (cf : Bool) (w : World) (hm : m.Ok) (hn : name.size ≤ maxLen) (hx : x.Ok) (wb : (Lit.int .i64 boots).wf = true) :
    Calls Tryd.prog 6 #[.agg m.cells, .string name, .agg x.cells, .int .i64 boots, .bool cf] w fun e w' => e = .returned (.bool true) ∧ Below w.heap.size w w' := by
  have hz27 := zero27_run
  have HLV := Lib.hid (alive_any ((w.alloc (.cells m.cells 27)).alloc (.cells x.cells 24)))
  have G := Lib.hid (gw_new w hm hx)
  have HR0 := fun b h W => docRight_is (m := m) W hm b h
  cases hb : rightB m with
  | false =>
    have HR := Lib.hid (HR0 false hb)
    clear HR0 hb
    go_enter Tryd.func6, Tryd.ntmps6
    go_wp2_with (first
      | (go_at_call 9; (with_reducible refine HLV.out.mono ?_); rintro e wr ⟨rfl, b1⟩; replace G := Lib.hid (G.out.kept b1); clear b1 HLV)
      | (refine wpList_ld 27 _ rfl _ _ (ld27 G.out.hm G.out.ok) rfl rfl ?_)
      | (go_at_call 16; (with_reducible refine (HR.out _).mono ?_); rintro e wr ⟨rfl, b1⟩; replace G := Lib.hid (G.out.kept b1); clear b1 HR))
    go_ret
    exact ⟨rfl, G.out.hb⟩
  | true =>
  have HR := Lib.hid (HR0 true hb)
  have RI := Lib.hid hb
  have HM := Lib.hid hm
  have HX := Lib.hid hx
  have HN := Lib.hid hn
  clear HR0 hb hm hx hn wb
  by_cases hp : m.phase = 0
  rotate_left
  · have dp : (m.phase != 0) = true := by simp [hp]
    clear hp
    go_enter Tryd.func6, Tryd.ntmps6
    go_wp2_with (first
      | (go_at_call 9; (with_reducible refine HLV.out.mono ?_); rintro e wr ⟨rfl, b1⟩; replace G := Lib.hid (G.out.kept b1); clear b1 HLV)
      | (refine wpList_ld 27 _ rfl _ _ (ld27 G.out.hm G.out.ok) rfl rfl ?_)
      | (go_at_call 16; (with_reducible refine (HR.out _).mono ?_); rintro e wr ⟨rfl, b1⟩; replace G := Lib.hid (G.out.kept b1); clear b1 HR; have c0 := (seen_of G.out.hm G.out.ok).phase; have c1 := (seen_of G.out.hm G.out.ok).least; have c2 := xs_ver G.out.hx; have c3 := xs_size G.out.hx))
    go_ret
    exact ⟨rfl, G.out.hb⟩
  have dp : (m.phase != 0) = false := by simp [hp]
  by_cases hv1 : x.ver < 1
  · have dv1 : decide (x.ver < 1) = true := decide_eq_true hv1
    go_enter Tryd.func6, Tryd.ntmps6
    go_wp2_with (first
      | (go_at_call 9; (with_reducible refine HLV.out.mono ?_); rintro e wr ⟨rfl, b1⟩; replace G := Lib.hid (G.out.kept b1); clear b1 HLV)
      | (refine wpList_ld 27 _ rfl _ _ (ld27 G.out.hm G.out.ok) rfl rfl ?_)
      | (go_at_call 16; (with_reducible refine (HR.out _).mono ?_); rintro e wr ⟨rfl, b1⟩; replace G := Lib.hid (G.out.kept b1); clear b1 HR; have c0 := (seen_of G.out.hm G.out.ok).phase; have c1 := (seen_of G.out.hm G.out.ok).least; have c2 := xs_ver G.out.hx; have c3 := xs_size G.out.hx))
    go_ret
    exact ⟨rfl, G.out.hb⟩
  have dv1 : decide (x.ver < 1) = false := decide_eq_false hv1
  by_cases hv2 : 1073741824 < x.ver
  · have dv2 : decide (1073741824 < x.ver) = true := decide_eq_true hv2
    go_enter Tryd.func6, Tryd.ntmps6
    go_wp2_with (first
      | (go_at_call 9; (with_reducible refine HLV.out.mono ?_); rintro e wr ⟨rfl, b1⟩; replace G := Lib.hid (G.out.kept b1); clear b1 HLV)
      | (refine wpList_ld 27 _ rfl _ _ (ld27 G.out.hm G.out.ok) rfl rfl ?_)
      | (go_at_call 16; (with_reducible refine (HR.out _).mono ?_); rintro e wr ⟨rfl, b1⟩; replace G := Lib.hid (G.out.kept b1); clear b1 HR; have c0 := (seen_of G.out.hm G.out.ok).phase; have c1 := (seen_of G.out.hm G.out.ok).least; have c2 := xs_ver G.out.hx; have c3 := xs_size G.out.hx))
    go_ret
    exact ⟨rfl, G.out.hb⟩
  have dv2 : decide (1073741824 < x.ver) = false := decide_eq_false hv2
  by_cases hv3 : x.ver < m.least
  · have dv3 : decide (x.ver < m.least) = true := decide_eq_true hv3
    go_enter Tryd.func6, Tryd.ntmps6
    go_wp2_with (first
      | (go_at_call 9; (with_reducible refine HLV.out.mono ?_); rintro e wr ⟨rfl, b1⟩; replace G := Lib.hid (G.out.kept b1); clear b1 HLV)
      | (refine wpList_ld 27 _ rfl _ _ (ld27 G.out.hm G.out.ok) rfl rfl ?_)
      | (go_at_call 16; (with_reducible refine (HR.out _).mono ?_); rintro e wr ⟨rfl, b1⟩; replace G := Lib.hid (G.out.kept b1); clear b1 HR; have c0 := (seen_of G.out.hm G.out.ok).phase; have c1 := (seen_of G.out.hm G.out.ok).least; have c2 := xs_ver G.out.hx; have c3 := xs_size G.out.hx))
    go_ret
    exact ⟨rfl, G.out.hb⟩
  have dv3 : decide (x.ver < m.least) = false := decide_eq_false hv3
  by_cases hs1 : x.size < 1
  · have ds1 : decide (x.size < 1) = true := decide_eq_true hs1
    go_enter Tryd.func6, Tryd.ntmps6
    go_wp2_with (first
      | (go_at_call 9; (with_reducible refine HLV.out.mono ?_); rintro e wr ⟨rfl, b1⟩; replace G := Lib.hid (G.out.kept b1); clear b1 HLV)
      | (refine wpList_ld 27 _ rfl _ _ (ld27 G.out.hm G.out.ok) rfl rfl ?_)
      | (go_at_call 16; (with_reducible refine (HR.out _).mono ?_); rintro e wr ⟨rfl, b1⟩; replace G := Lib.hid (G.out.kept b1); clear b1 HR; have c0 := (seen_of G.out.hm G.out.ok).phase; have c1 := (seen_of G.out.hm G.out.ok).least; have c2 := xs_ver G.out.hx; have c3 := xs_size G.out.hx))
    go_ret
    exact ⟨rfl, G.out.hb⟩
  have ds1 : decide (x.size < 1) = false := decide_eq_false hs1
  by_cases hs2 : 1920 < x.size
  · have ds2 : decide (1920 < x.size) = true := decide_eq_true hs2
    go_enter Tryd.func6, Tryd.ntmps6
    go_wp2_with (first
      | (go_at_call 9; (with_reducible refine HLV.out.mono ?_); rintro e wr ⟨rfl, b1⟩; replace G := Lib.hid (G.out.kept b1); clear b1 HLV)
      | (refine wpList_ld 27 _ rfl _ _ (ld27 G.out.hm G.out.ok) rfl rfl ?_)
      | (go_at_call 16; (with_reducible refine (HR.out _).mono ?_); rintro e wr ⟨rfl, b1⟩; replace G := Lib.hid (G.out.kept b1); clear b1 HR; have c0 := (seen_of G.out.hm G.out.ok).phase; have c1 := (seen_of G.out.hm G.out.ok).least; have c2 := xs_ver G.out.hx; have c3 := xs_size G.out.hx))
    go_ret
    exact ⟨rfl, G.out.hb⟩
  have ds2 : decide (1920 < x.size) = false := decide_eq_false hs2
  by_cases hb1 : boots < 1
  · have db1 : decide (boots < 1) = true := decide_eq_true hb1
    go_enter Tryd.func6, Tryd.ntmps6
    go_wp2_with (first
      | (go_at_call 9; (with_reducible refine HLV.out.mono ?_); rintro e wr ⟨rfl, b1⟩; replace G := Lib.hid (G.out.kept b1); clear b1 HLV)
      | (refine wpList_ld 27 _ rfl _ _ (ld27 G.out.hm G.out.ok) rfl rfl ?_)
      | (go_at_call 16; (with_reducible refine (HR.out _).mono ?_); rintro e wr ⟨rfl, b1⟩; replace G := Lib.hid (G.out.kept b1); clear b1 HR; have c0 := (seen_of G.out.hm G.out.ok).phase; have c1 := (seen_of G.out.hm G.out.ok).least; have c2 := xs_ver G.out.hx; have c3 := xs_size G.out.hx))
    go_ret
    exact ⟨rfl, G.out.hb⟩
  have db1 : decide (boots < 1) = false := decide_eq_false hb1
  by_cases hb5 : 5 < boots
  · have db5 : decide (5 < boots) = true := decide_eq_true hb5
    go_enter Tryd.func6, Tryd.ntmps6
    go_wp2_with (first
      | (go_at_call 9; (with_reducible refine HLV.out.mono ?_); rintro e wr ⟨rfl, b1⟩; replace G := Lib.hid (G.out.kept b1); clear b1 HLV)
      | (refine wpList_ld 27 _ rfl _ _ (ld27 G.out.hm G.out.ok) rfl rfl ?_)
      | (go_at_call 16; (with_reducible refine (HR.out _).mono ?_); rintro e wr ⟨rfl, b1⟩; replace G := Lib.hid (G.out.kept b1); clear b1 HR; have c0 := (seen_of G.out.hm G.out.ok).phase; have c1 := (seen_of G.out.hm G.out.ok).least; have c2 := xs_ver G.out.hx; have c3 := xs_size G.out.hx))
    go_ret
    exact ⟨rfl, G.out.hb⟩
  have db5 : decide (5 < boots) = false := decide_eq_false hb5
  cases hv : Nam.validL (Nam.all name) with
  | false =>
    have HCF := Lib.hid (fun k f c1 c2 W => rconf_any name k f c1 c2 W HN.out false hv)
    clear hv
    go_enter Tryd.func6, Tryd.ntmps6
    go_wp2_with (first
      | (go_at_call 9; (with_reducible refine HLV.out.mono ?_); rintro e wr ⟨rfl, b1⟩; replace G := Lib.hid (G.out.kept b1); clear b1 HLV)
      | (refine wpList_ld 27 _ rfl _ _ (ld27 G.out.hm G.out.ok) rfl rfl ?_)
      | (go_at_call 16; (with_reducible refine (HR.out _).mono ?_); rintro e wr ⟨rfl, b1⟩; replace G := Lib.hid (G.out.kept b1); clear b1 HR; have c0 := (seen_of G.out.hm G.out.ok).phase; have c1 := (seen_of G.out.hm G.out.ok).least; have c2 := xs_ver G.out.hx; have c3 := xs_size G.out.hx; have k1 := conv_one wr 107; have k2 := conv_two wr (.cells #[.int .u8 107] 5 (1, 2)) 120)
      | (refine wpList_bld 49 _ rfl (cfC name (some ⟨wr.heap.size, 0, none⟩) (some ⟨wr.heap.size + 1, 0, none⟩) 1 1) (by kernel_rfl) rfl ?_; clear c0 c1 c2 c3 k1 k2)
      | (go_at_call 17; (with_reducible refine (HCF.out _ _ _ _ _).mono ?_); rintro e wx ⟨rfl, b1⟩; replace G := Lib.hid ((G.out.kept (((Below.refl _ _).alloc (Nat.le_refl _) _).alloc (by simp) _)).kept b1); clear b1 HCF))
    go_ret
    exact ⟨rfl, G.out.hb⟩
  | true =>
  clear dp dv1 dv2 dv3 ds1 ds2 db1 db5 HR G HLV
  obtain ⟨nb, rfl⟩ : ∃ nb : Nat, boots = (nb : Int) := ⟨boots.toNat, by omega⟩
  have may : May m x := ⟨RI.out, hp, by omega, by omega, by omega, by omega, by omega⟩
  have hi := right_in RI.out
  have hm := HM.out
  obtain ⟨act, h0, h1, l, ph, com, gt, tr⟩ := m
  obtain rfl : ph = 0 := hp
  rcases hi.act with e | e
  · obtain rfl : act = 0 := e
    exact main_0 h0 h1 com x l gt tr name nb cf w hm HX.out may HN.out hv (by omega) (by omega)
  · obtain rfl : act = 1 := e
    exact main_1 h0 h1 com x l gt tr name nb cf w hm HX.out may HN.out hv (by omega) (by omega)
theorem img_of {H : Type} {enc : TypeId × Value → H} {w : World} {fuel : Nat} {cs : Array Value} {y : DataW H × List MemPlace} (h : DataW.trod enc Tryd.prog w 0 (fun _ => true) true fuel 24 (Value.agg cs).cells.toList = some y) : ∃ i : Im, cs = i.cells ∧ i.Ok := by
  obtain ⟨i, e, h1⟩ := im_of h
  exact ⟨i, Array.ext' e, h1⟩
end Go.Proofs.YtcokpdhhpaahgaaDoor.updateGoes
