/-
  The walk of the law CapsLimits: how great a tenant's numbers may be; conditions: none.
-/
import Derived.Test.YtljkngalnoepmaaLv
import Derived.Deep.Cut
import Derived.Laws.MakeOwn
import Derived.Deep.RegionHeld3
namespace Go.Proofs.Ytljkngalnoepmaa.capsLimits
open Go.RowKit
set_option linter.unusedVariables false
set_option linter.unusedSimpArgs false

/-- A row of n bytes 0. -/
def Zs (n : Nat) : Array Value := madeCells #[.int .u8 0] n
theorem info5 : (Try.prog.info? 5).map (fun i => (i.zero, i.size, i.bytes)) = some (some (.int .u8 0), 1, 1) := by kernel_rfl
theorem make_zs (n : Nat) (hn : n ≤ 2000) (w : World) : (Instr.makeSlice 36 (.int .i64 (n : Int)) (.int .i64 (n : Int))).run Try.prog w = .ok (.slice (some ⟨w.heap.size, 0, none⟩) n n) (w.alloc (.cells (Zs n) 5)) := by
  obtain ⟨i, hi, hz, hs, hb⟩ := parts_info info5
  have := run_make (P := Try.prog) w 36 5 i _ Try.underlying36 hi hz .i64 .i64 n n (by omega) (by omega) (by rw [hb]; omega) (by omega)
  rw [hs, Int.toNat_natCast, Nat.mul_one] at this
  exact this
/-- What make lays; the cells stay a name. -/
def Makes (n : Int) (k : Nat) (Z : Array Value) : Prop := ∀ w : World, (Instr.makeSlice 36 (.int .i64 n) (.int .i64 n)).run Try.prog w = .ok (.slice (some ⟨w.heap.size, 0, none⟩) k k) (w.alloc (.cells Z 5))
theorem make_64 : ∃ Z, Makes 64 64 Z := ⟨Zs 64, make_zs 64 (by omega)⟩
theorem make_65 : ∃ Z, Makes 65 65 Z := ⟨Zs 65, make_zs 65 (by omega)⟩
theorem make_1920 : ∃ Z, Makes 1920 1920 Z := ⟨Zs 1920, make_zs 1920 (by omega)⟩
theorem make_1921 : ∃ Z, Makes 1921 1921 Z := ⟨Zs 1921, make_zs 1921 (by omega)⟩
theorem has_0 (w : World) (o1 o2 : Obj) (cs : Array Value) : Has (((w.alloc (.cells cs 38)).alloc o1).alloc o2) w.heap.size 38 cs := ((has_new w 38 cs).more o1).more o2
theorem has_1 (w : World) (o1 o2 : Obj) (cs : Array Value) : Has (((w.alloc o1).alloc (.cells cs 38)).alloc o2) (w.heap.size + 1) 38 cs := by
  have := (has_new (w.alloc o1) 38 cs).more o2
  rwa [World.size_alloc] at this
theorem has_2 (w : World) (o1 o2 : Obj) (cs : Array Value) : Has (((w.alloc o1).alloc o2).alloc (.cells cs 38)) (w.heap.size + 1 + 1) 38 cs := by
  have := has_new ((w.alloc o1).alloc o2) 38 cs
  rwa [World.size_alloc, World.size_alloc] at this
theorem below_3 {w w1 : World} (h : Below w.heap.size w w1) (o1 o2 o3 : Obj) : Below w.heap.size w (((w1.alloc o1).alloc o2).alloc o3) := by
  have h1 := h.alloc h.size o1
  have h2 := h1.alloc h1.size o2
  exact h2.alloc h2.size o3
/-- The config that is as great as may be, but for what is told. -/
def top (s : ByteArray) (ka : Option Addr) (kl : Nat) (sl bu qu ri : Int) (fa : Option Addr) (fl : Nat) : Cf := ⟨s, ka, kl, kl, sl, bu, qu, ri, fa, fl, fl⟩
def s8 : ByteArray := ⟨#[97, 98, 99, 100, 101, 102, 103, 104]⟩
def s9 : ByteArray := ⟨#[97, 98, 99, 100, 101, 102, 103, 104, 105]⟩
theorem valid8 : Nam.validL (Nam.all s8) = true := by decide +kernel
theorem valid9 : Nam.validL (Nam.all s9) = false := by decide +kernel
theorem top_ok {s : ByteArray} (hs : s.size ≤ 9) (ka : Option Addr) (kl : Nat) {sl bu qu ri : Int} (h : (0 ≤ sl ∧ sl ≤ 2000) ∧ (0 ≤ bu ∧ bu ≤ 2000) ∧ (0 ≤ qu ∧ qu ≤ 2000) ∧ (0 ≤ ri ∧ ri ≤ 2000)) (fa : Option Addr) (fl : Nat) : (top s ka kl sl bu qu ri fa fl).Ok := by
  obtain ⟨⟨h1, h2⟩, ⟨h3, h4⟩, ⟨h5, h6⟩, h7, h8⟩ := h
  refine ⟨by show s.size ≤ maxLen; unfold maxLen; omega, ⟨?_, ?_⟩, ⟨?_, ?_⟩, ⟨?_, ?_⟩, ⟨?_, ?_⟩⟩ <;> simp only [top] <;> omega
theorem top_right {s : ByteArray} (ka : Option Addr) (kl : Nat) (sl bu qu ri : Int) (fa : Option Addr) (fl : Nat) (b : Bool) (hb : Nam.validL (Nam.all s) = true) (h : (winB kl 1 64 && (winB sl 1 6 && (winB bu 0 1000 && (winB qu 1 sl && (winB ri 0 1023 && winB fl 1 (qu * 320)))))) = b) : rightB (top s ka kl sl bu qu ri fa fl) = b := by
  unfold rightB
  rw [show (top s ka kl sl bu qu ri fa fl).name = s from rfl, hb]
  exact h
theorem top_name {s : ByteArray} (ka : Option Addr) (kl : Nat) (sl bu qu ri : Int) (fa : Option Addr) (fl : Nat) (hb : Nam.validL (Nam.all s) = false) : rightB (top s ka kl sl bu qu ri fa fl) = false := by
  unfold rightB
  rw [show (top s ka kl sl bu qu ri fa fl).name = s from rfl, hb]
  rfl
theorem fin_cut {w wx : World} {g : Nat} {ka fa : Option Addr} (h : Has wx g 38 (top sA ka 64 6 1000 6 1023 fa 1920).cells) (hg : w.heap.size ≤ g) (hb : Below w.heap.size w wx) :
    ∃ g' ka fa, Value.pointer (some ⟨g, 0, none⟩) = .pointer (some ⟨g', 0, none⟩) ∧ Has wx g' 38 (top sA ka 64 6 1000 6 1023 fa 1920).cells ∧ w.heap.size ≤ g' ∧ Below w.heap.size w wx := ⟨g, ka, fa, rfl, h, hg, hb⟩
theorem has_put {w : World} {g : Nat} {c d : Cf} (h : Has w g 38 c.cells) (i : Nat) (v : Value) (e : c.cells.setIfInBounds i v = d.cells) : Has (w.setCell ⟨g, i, none⟩ v) g 38 d.cells := by
  rw [← e]
  exact heap_setCell_same w g i c.cells 38 v h
theorem ld_b {w : World} {g : Nat} {c : Cf} (h : Has w g 38 c.cells) : (Instr.loadAt 38 (.pointer (some ⟨g, 0, none⟩))).run Try.prog w = .ok (.agg c.cells) w := (see_b h).ld
theorem right_is {c : Cf} {b : Bool} (w : World) (hc : c.Ok) (h : rightB c = b) : Calls Try.prog 14 #[.agg c.cells] w fun e w' => e = .returned (.bool b) ∧ Below w.heap.size w w' := by
  rw [← h]
  exact right_any c w hc
set_option maxRecDepth 100000 in
set_option maxHeartbeats 4000000 in
theorem walk_under (a0 : Int) (h0 : ¬ a0 < 0) (h6 : ¬ 6 < a0) (w : World) :
    Calls Try.prog 5 #[.int .i64 a0, .bool false] w fun e w' => e = .returned (.bool true) ∧ Below w.heap.size w w' := by
  obtain ⟨Z1, mk1⟩ := make_64
  obtain ⟨Z2, mk2⟩ := make_1920
  obtain ⟨Z3, mk3⟩ := make_65
  obtain ⟨Z4, mk4⟩ := make_1921
  unfold Makes at mk1 mk2 mk3 mk4
  have d6 : decide (6 < a0) = false := decide_eq_false h6
  go_enter Try.func5, Try.ntmps5
  go_upto_region 7 with (go_at_call 7; refine (alive_any _).mono ?_; rintro e w1 ⟨rfl, H1⟩; have B1 := Lib.hid H1; clear H1)
  go_cut [7] from 8 (fun s7 wx => ∃ g ka fa, s7 = .pointer (some ⟨g, 0, none⟩) ∧ Has wx g 38 (top sA ka 64 6 1000 6 1023 fa 1920).cells ∧ w.heap.size ≤ g ∧ Below w.heap.size w wx)
  case first =>
    refine wp_region_held_drew (S := fun _ => True) (by kernel_rfl) trivial ?_
    intro _
    refine wpAnyH_ready (rs := [0, 1, 3]) (by kernel_rfl) (by simp) ?_
    refine AllReadyH.cons rfl (fun K hK => ?_) (AllReadyH.cons rfl (fun K hK => ?_) (AllReadyH.cons rfl (fun K hK => ?_) AllReadyH.nil))
    · go_simp
      refine hK.out _ _ trivial (fun _ => ?_)
      clear hK K
      refine wpAnyH_ready (rs := [1, 3]) (by kernel_rfl) (by simp) ?_
      refine AllReadyH.cons rfl (fun K hK => ?_) (AllReadyH.cons rfl (fun K hK => ?_) AllReadyH.nil)
      · go_simp
        refine hK.out _ _ trivial (fun _ => ?_)
        clear hK K
        refine wpAnyH_ready (rs := [2, 3]) (by kernel_rfl) (by simp) ?_
        refine AllReadyH.cons rfl (fun K hK => ?_) (AllReadyH.cons rfl (fun K hK => ?_) AllReadyH.nil)
        · go_simp
          refine hK.out _ _ trivial (fun _ => ?_)
          clear hK K
          refine wpAnyH_ready (rs := [3]) (by kernel_rfl) (by simp) ?_
          refine AllReadyH.cons rfl (fun K hK => ?_) AllReadyH.nil
          · go_simp
            refine hK.out _ _ trivial (fun _ => ?_)
            clear hK K
            refine wpAnyH_ready (rs := [4]) (by kernel_rfl) (by simp) ?_
            refine AllReadyH.cons rfl (fun K hK => ?_) AllReadyH.nil
            · go_simp
              refine hK.out _ _ trivial (fun _ => ?_)
              clear hK K
              refine wpAnyH_done (by kernel_rfl) ?_ _
              go_wp2
              go_meet
              case rel =>
                have := B1.out.size
                first
                  | exact fin_cut (has_0 _ _ _ _) (by omega) (below_3 B1.out _ _ _).drew
                  | exact fin_cut (has_1 _ _ _ _) (by omega) (below_3 B1.out _ _ _).drew
                  | exact fin_cut (has_2 _ _ _ _) (by omega) (below_3 B1.out _ _ _).drew
        · go_simp
          refine hK.out _ _ trivial (fun _ => ?_)
          clear hK K
          refine wpAnyH_ready (rs := [2]) (by kernel_rfl) (by simp) ?_
          refine AllReadyH.cons rfl (fun K hK => ?_) AllReadyH.nil
          · go_simp
            refine hK.out _ _ trivial (fun _ => ?_)
            clear hK K
            refine wpAnyH_ready (rs := [4]) (by kernel_rfl) (by simp) ?_
            refine AllReadyH.cons rfl (fun K hK => ?_) AllReadyH.nil
            · go_simp
              refine hK.out _ _ trivial (fun _ => ?_)
              clear hK K
              refine wpAnyH_done (by kernel_rfl) ?_ _
              go_wp2
              go_meet
              case rel =>
                have := B1.out.size
                first
                  | exact fin_cut (has_0 _ _ _ _) (by omega) (below_3 B1.out _ _ _).drew
                  | exact fin_cut (has_1 _ _ _ _) (by omega) (below_3 B1.out _ _ _).drew
                  | exact fin_cut (has_2 _ _ _ _) (by omega) (below_3 B1.out _ _ _).drew
      · go_simp
        refine hK.out _ _ trivial (fun _ => ?_)
        clear hK K
        refine wpAnyH_ready (rs := [1]) (by kernel_rfl) (by simp) ?_
        refine AllReadyH.cons rfl (fun K hK => ?_) AllReadyH.nil
        · go_simp
          refine hK.out _ _ trivial (fun _ => ?_)
          clear hK K
          refine wpAnyH_ready (rs := [2]) (by kernel_rfl) (by simp) ?_
          refine AllReadyH.cons rfl (fun K hK => ?_) AllReadyH.nil
          · go_simp
            refine hK.out _ _ trivial (fun _ => ?_)
            clear hK K
            refine wpAnyH_ready (rs := [4]) (by kernel_rfl) (by simp) ?_
            refine AllReadyH.cons rfl (fun K hK => ?_) AllReadyH.nil
            · go_simp
              refine hK.out _ _ trivial (fun _ => ?_)
              clear hK K
              refine wpAnyH_done (by kernel_rfl) ?_ _
              go_wp2
              go_meet
              case rel =>
                have := B1.out.size
                first
                  | exact fin_cut (has_0 _ _ _ _) (by omega) (below_3 B1.out _ _ _).drew
                  | exact fin_cut (has_1 _ _ _ _) (by omega) (below_3 B1.out _ _ _).drew
                  | exact fin_cut (has_2 _ _ _ _) (by omega) (below_3 B1.out _ _ _).drew
    · go_simp
      refine hK.out _ _ trivial (fun _ => ?_)
      clear hK K
      refine wpAnyH_ready (rs := [0, 3]) (by kernel_rfl) (by simp) ?_
      refine AllReadyH.cons rfl (fun K hK => ?_) (AllReadyH.cons rfl (fun K hK => ?_) AllReadyH.nil)
      · go_simp
        refine hK.out _ _ trivial (fun _ => ?_)
        clear hK K
        refine wpAnyH_ready (rs := [2, 3]) (by kernel_rfl) (by simp) ?_
        refine AllReadyH.cons rfl (fun K hK => ?_) (AllReadyH.cons rfl (fun K hK => ?_) AllReadyH.nil)
        · go_simp
          refine hK.out _ _ trivial (fun _ => ?_)
          clear hK K
          refine wpAnyH_ready (rs := [3]) (by kernel_rfl) (by simp) ?_
          refine AllReadyH.cons rfl (fun K hK => ?_) AllReadyH.nil
          · go_simp
            refine hK.out _ _ trivial (fun _ => ?_)
            clear hK K
            refine wpAnyH_ready (rs := [4]) (by kernel_rfl) (by simp) ?_
            refine AllReadyH.cons rfl (fun K hK => ?_) AllReadyH.nil
            · go_simp
              refine hK.out _ _ trivial (fun _ => ?_)
              clear hK K
              refine wpAnyH_done (by kernel_rfl) ?_ _
              go_wp2
              go_meet
              case rel =>
                have := B1.out.size
                first
                  | exact fin_cut (has_0 _ _ _ _) (by omega) (below_3 B1.out _ _ _).drew
                  | exact fin_cut (has_1 _ _ _ _) (by omega) (below_3 B1.out _ _ _).drew
                  | exact fin_cut (has_2 _ _ _ _) (by omega) (below_3 B1.out _ _ _).drew
        · go_simp
          refine hK.out _ _ trivial (fun _ => ?_)
          clear hK K
          refine wpAnyH_ready (rs := [2]) (by kernel_rfl) (by simp) ?_
          refine AllReadyH.cons rfl (fun K hK => ?_) AllReadyH.nil
          · go_simp
            refine hK.out _ _ trivial (fun _ => ?_)
            clear hK K
            refine wpAnyH_ready (rs := [4]) (by kernel_rfl) (by simp) ?_
            refine AllReadyH.cons rfl (fun K hK => ?_) AllReadyH.nil
            · go_simp
              refine hK.out _ _ trivial (fun _ => ?_)
              clear hK K
              refine wpAnyH_done (by kernel_rfl) ?_ _
              go_wp2
              go_meet
              case rel =>
                have := B1.out.size
                first
                  | exact fin_cut (has_0 _ _ _ _) (by omega) (below_3 B1.out _ _ _).drew
                  | exact fin_cut (has_1 _ _ _ _) (by omega) (below_3 B1.out _ _ _).drew
                  | exact fin_cut (has_2 _ _ _ _) (by omega) (below_3 B1.out _ _ _).drew
      · go_simp
        refine hK.out _ _ trivial (fun _ => ?_)
        clear hK K
        refine wpAnyH_ready (rs := [0]) (by kernel_rfl) (by simp) ?_
        refine AllReadyH.cons rfl (fun K hK => ?_) AllReadyH.nil
        · go_simp
          refine hK.out _ _ trivial (fun _ => ?_)
          clear hK K
          refine wpAnyH_ready (rs := [2]) (by kernel_rfl) (by simp) ?_
          refine AllReadyH.cons rfl (fun K hK => ?_) AllReadyH.nil
          · go_simp
            refine hK.out _ _ trivial (fun _ => ?_)
            clear hK K
            refine wpAnyH_ready (rs := [4]) (by kernel_rfl) (by simp) ?_
            refine AllReadyH.cons rfl (fun K hK => ?_) AllReadyH.nil
            · go_simp
              refine hK.out _ _ trivial (fun _ => ?_)
              clear hK K
              refine wpAnyH_done (by kernel_rfl) ?_ _
              go_wp2
              go_meet
              case rel =>
                have := B1.out.size
                first
                  | exact fin_cut (has_0 _ _ _ _) (by omega) (below_3 B1.out _ _ _).drew
                  | exact fin_cut (has_1 _ _ _ _) (by omega) (below_3 B1.out _ _ _).drew
                  | exact fin_cut (has_2 _ _ _ _) (by omega) (below_3 B1.out _ _ _).drew
    · go_simp
      refine hK.out _ _ trivial (fun _ => ?_)
      clear hK K
      refine wpAnyH_ready (rs := [0, 1]) (by kernel_rfl) (by simp) ?_
      refine AllReadyH.cons rfl (fun K hK => ?_) (AllReadyH.cons rfl (fun K hK => ?_) AllReadyH.nil)
      · go_simp
        refine hK.out _ _ trivial (fun _ => ?_)
        clear hK K
        refine wpAnyH_ready (rs := [1]) (by kernel_rfl) (by simp) ?_
        refine AllReadyH.cons rfl (fun K hK => ?_) AllReadyH.nil
        · go_simp
          refine hK.out _ _ trivial (fun _ => ?_)
          clear hK K
          refine wpAnyH_ready (rs := [2]) (by kernel_rfl) (by simp) ?_
          refine AllReadyH.cons rfl (fun K hK => ?_) AllReadyH.nil
          · go_simp
            refine hK.out _ _ trivial (fun _ => ?_)
            clear hK K
            refine wpAnyH_ready (rs := [4]) (by kernel_rfl) (by simp) ?_
            refine AllReadyH.cons rfl (fun K hK => ?_) AllReadyH.nil
            · go_simp
              refine hK.out _ _ trivial (fun _ => ?_)
              clear hK K
              refine wpAnyH_done (by kernel_rfl) ?_ _
              go_wp2
              go_meet
              case rel =>
                have := B1.out.size
                first
                  | exact fin_cut (has_0 _ _ _ _) (by omega) (below_3 B1.out _ _ _).drew
                  | exact fin_cut (has_1 _ _ _ _) (by omega) (below_3 B1.out _ _ _).drew
                  | exact fin_cut (has_2 _ _ _ _) (by omega) (below_3 B1.out _ _ _).drew
      · go_simp
        refine hK.out _ _ trivial (fun _ => ?_)
        clear hK K
        refine wpAnyH_ready (rs := [0]) (by kernel_rfl) (by simp) ?_
        refine AllReadyH.cons rfl (fun K hK => ?_) AllReadyH.nil
        · go_simp
          refine hK.out _ _ trivial (fun _ => ?_)
          clear hK K
          refine wpAnyH_ready (rs := [2]) (by kernel_rfl) (by simp) ?_
          refine AllReadyH.cons rfl (fun K hK => ?_) AllReadyH.nil
          · go_simp
            refine hK.out _ _ trivial (fun _ => ?_)
            clear hK K
            refine wpAnyH_ready (rs := [4]) (by kernel_rfl) (by simp) ?_
            refine AllReadyH.cons rfl (fun K hK => ?_) AllReadyH.nil
            · go_simp
              refine hK.out _ _ trivial (fun _ => ?_)
              clear hK K
              refine wpAnyH_done (by kernel_rfl) ?_ _
              go_wp2
              go_meet
              case rel =>
                have := B1.out.size
                first
                  | exact fin_cut (has_0 _ _ _ _) (by omega) (below_3 B1.out _ _ _).drew
                  | exact fin_cut (has_1 _ _ _ _) (by omega) (below_3 B1.out _ _ _).drew
                  | exact fin_cut (has_2 _ _ _ _) (by omega) (below_3 B1.out _ _ _).drew
  case rest =>
    obtain ⟨g, ka, fa, rfl, H, hg, hb⟩ := hcut
    have hsplit : a0 = 0 ∨ a0 = 1 ∨ a0 = 2 ∨ a0 = 3 ∨ a0 = 4 ∨ a0 = 5 ∨ a0 = 6 := by omega
    clear h0 h6 d6
    rcases hsplit with rfl | rfl | rfl | rfl | rfl | rfl | rfl
    · have H0 := H.more (.cells Z1 5)
      have B0 := hb.alloc hb.size (.cells Z1 5)
      have y0 := H0.at 1
      have z0 := H0.soft 1
      have H1 := has_put (d := (top sA (some ⟨wc.heap.size, 0, none⟩) 64 6 1000 6 1023 fa 1920)) H0 1 (.slice (some ⟨wc.heap.size, 0, none⟩) 64 64) rfl
      have B1 := B0.setCell (p := ⟨g, 1, none⟩) hg (.slice (some ⟨wc.heap.size, 0, none⟩) 64 64)
      have HL := Lib.hid (ld_b H1)
      have HI := Lib.hid (fun W => right_is W (top_ok (s := sA) (by decide) (some ⟨wc.heap.size, 0, none⟩) 64 (sl := 6) (bu := 1000) (qu := 6) (ri := 1023) ⟨⟨by omega, by omega⟩, ⟨by omega, by omega⟩, ⟨by omega, by omega⟩, by omega, by omega⟩ fa 1920) (top_right (some ⟨wc.heap.size, 0, none⟩) 64 6 1000 6 1023 fa 1920 true validA rfl))
      have BB := Lib.hid B1
      clear H0 H1 B0 B1 H hb
      go_wp2_with (first
        | (refine wpList_ld 38 _ rfl _ _ HL.out rfl rfl ?_)
        | (go_at_call 14; (with_reducible refine (HI.out _).mono ?_); rintro e w2 ⟨rfl, b2⟩; have BC := Lib.hid (belowThen BB.out b2 BB.out.size); clear b2))
      go_ret
      exact ⟨rfl, BC.out⟩
    · have H0 := H
      have B0 := hb
      have y0 := H0.at 2
      have z0 := H0.soft 2
      have H1 := has_put (d := (top sA ka 64 6 1000 6 1023 fa 1920)) H0 2 (.int .i64 6) rfl
      have B1 := B0.setCell (p := ⟨g, 2, none⟩) hg (.int .i64 6)
      have y1 := H1.at 4
      have z1 := H1.soft 4
      have H2 := has_put (d := (top sA ka 64 6 1000 6 1023 fa 1920)) H1 4 (.int .i64 6) rfl
      have B2 := B1.setCell (p := ⟨g, 4, none⟩) hg (.int .i64 6)
      have HL := Lib.hid (ld_b H2)
      have HI := Lib.hid (fun W => right_is W (top_ok (s := sA) (by decide) ka 64 (sl := 6) (bu := 1000) (qu := 6) (ri := 1023) ⟨⟨by omega, by omega⟩, ⟨by omega, by omega⟩, ⟨by omega, by omega⟩, by omega, by omega⟩ fa 1920) (top_right ka 64 6 1000 6 1023 fa 1920 true validA rfl))
      have BB := Lib.hid B2
      clear H0 H1 H2 B0 B1 B2 H hb
      go_wp2_with (first
        | (refine wpList_ld 38 _ rfl _ _ HL.out rfl rfl ?_)
        | (go_at_call 14; (with_reducible refine (HI.out _).mono ?_); rintro e w2 ⟨rfl, b2⟩; have BC := Lib.hid (belowThen BB.out b2 BB.out.size); clear b2))
      go_ret
      exact ⟨rfl, BC.out⟩
    · have H0 := H
      have B0 := hb
      have y0 := H0.at 3
      have z0 := H0.soft 3
      have H1 := has_put (d := (top sA ka 64 6 1000 6 1023 fa 1920)) H0 3 (.int .i64 1000) rfl
      have B1 := B0.setCell (p := ⟨g, 3, none⟩) hg (.int .i64 1000)
      have HL := Lib.hid (ld_b H1)
      have HI := Lib.hid (fun W => right_is W (top_ok (s := sA) (by decide) ka 64 (sl := 6) (bu := 1000) (qu := 6) (ri := 1023) ⟨⟨by omega, by omega⟩, ⟨by omega, by omega⟩, ⟨by omega, by omega⟩, by omega, by omega⟩ fa 1920) (top_right ka 64 6 1000 6 1023 fa 1920 true validA rfl))
      have BB := Lib.hid B1
      clear H0 H1 B0 B1 H hb
      go_wp2_with (first
        | (refine wpList_ld 38 _ rfl _ _ HL.out rfl rfl ?_)
        | (go_at_call 14; (with_reducible refine (HI.out _).mono ?_); rintro e w2 ⟨rfl, b2⟩; have BC := Lib.hid (belowThen BB.out b2 BB.out.size); clear b2))
      go_ret
      exact ⟨rfl, BC.out⟩
    · have H0 := H
      have B0 := hb
      have y0 := H0.at 4
      have z0 := H0.soft 4
      have H1 := has_put (d := (top sA ka 64 6 1000 6 1023 fa 1920)) H0 4 (.int .i64 6) rfl
      have B1 := B0.setCell (p := ⟨g, 4, none⟩) hg (.int .i64 6)
      have HL := Lib.hid (ld_b H1)
      have HI := Lib.hid (fun W => right_is W (top_ok (s := sA) (by decide) ka 64 (sl := 6) (bu := 1000) (qu := 6) (ri := 1023) ⟨⟨by omega, by omega⟩, ⟨by omega, by omega⟩, ⟨by omega, by omega⟩, by omega, by omega⟩ fa 1920) (top_right ka 64 6 1000 6 1023 fa 1920 true validA rfl))
      have BB := Lib.hid B1
      clear H0 H1 B0 B1 H hb
      go_wp2_with (first
        | (refine wpList_ld 38 _ rfl _ _ HL.out rfl rfl ?_)
        | (go_at_call 14; (with_reducible refine (HI.out _).mono ?_); rintro e w2 ⟨rfl, b2⟩; have BC := Lib.hid (belowThen BB.out b2 BB.out.size); clear b2))
      go_ret
      exact ⟨rfl, BC.out⟩
    · have H0 := H
      have B0 := hb
      have y0 := H0.at 5
      have z0 := H0.soft 5
      have H1 := has_put (d := (top sA ka 64 6 1000 6 1023 fa 1920)) H0 5 (.int .i64 1023) rfl
      have B1 := B0.setCell (p := ⟨g, 5, none⟩) hg (.int .i64 1023)
      have HL := Lib.hid (ld_b H1)
      have HI := Lib.hid (fun W => right_is W (top_ok (s := sA) (by decide) ka 64 (sl := 6) (bu := 1000) (qu := 6) (ri := 1023) ⟨⟨by omega, by omega⟩, ⟨by omega, by omega⟩, ⟨by omega, by omega⟩, by omega, by omega⟩ fa 1920) (top_right ka 64 6 1000 6 1023 fa 1920 true validA rfl))
      have BB := Lib.hid B1
      clear H0 H1 B0 B1 H hb
      go_wp2_with (first
        | (refine wpList_ld 38 _ rfl _ _ HL.out rfl rfl ?_)
        | (go_at_call 14; (with_reducible refine (HI.out _).mono ?_); rintro e w2 ⟨rfl, b2⟩; have BC := Lib.hid (belowThen BB.out b2 BB.out.size); clear b2))
      go_ret
      exact ⟨rfl, BC.out⟩
    · have H0 := H.more (.cells Z2 5)
      have B0 := hb.alloc hb.size (.cells Z2 5)
      have y0 := H0.at 6
      have z0 := H0.soft 6
      have H1 := has_put (d := (top sA ka 64 6 1000 6 1023 (some ⟨wc.heap.size, 0, none⟩) 1920)) H0 6 (.slice (some ⟨wc.heap.size, 0, none⟩) 1920 1920) rfl
      have B1 := B0.setCell (p := ⟨g, 6, none⟩) hg (.slice (some ⟨wc.heap.size, 0, none⟩) 1920 1920)
      have HL := Lib.hid (ld_b H1)
      have HI := Lib.hid (fun W => right_is W (top_ok (s := sA) (by decide) ka 64 (sl := 6) (bu := 1000) (qu := 6) (ri := 1023) ⟨⟨by omega, by omega⟩, ⟨by omega, by omega⟩, ⟨by omega, by omega⟩, by omega, by omega⟩ (some ⟨wc.heap.size, 0, none⟩) 1920) (top_right ka 64 6 1000 6 1023 (some ⟨wc.heap.size, 0, none⟩) 1920 true validA rfl))
      have BB := Lib.hid B1
      clear H0 H1 B0 B1 H hb
      go_wp2_with (first
        | (refine wpList_ld 38 _ rfl _ _ HL.out rfl rfl ?_)
        | (go_at_call 14; (with_reducible refine (HI.out _).mono ?_); rintro e w2 ⟨rfl, b2⟩; have BC := Lib.hid (belowThen BB.out b2 BB.out.size); clear b2))
      go_ret
      exact ⟨rfl, BC.out⟩
    · have H0 := H
      have B0 := hb
      have y0 := H0.at 0
      have z0 := H0.soft 0
      have H1 := has_put (d := (top s8 ka 64 6 1000 6 1023 fa 1920)) H0 0 (.string s8) rfl
      have B1 := B0.setCell (p := ⟨g, 0, none⟩) hg (.string s8)
      have HL := Lib.hid (ld_b H1)
      have HI := Lib.hid (fun W => right_is W (top_ok (s := s8) (by decide) ka 64 (sl := 6) (bu := 1000) (qu := 6) (ri := 1023) ⟨⟨by omega, by omega⟩, ⟨by omega, by omega⟩, ⟨by omega, by omega⟩, by omega, by omega⟩ fa 1920) (top_right ka 64 6 1000 6 1023 fa 1920 true valid8 rfl))
      have BB := Lib.hid B1
      clear H0 H1 B0 B1 H hb
      go_wp2_with (first
        | (refine wpList_ld 38 _ rfl _ _ HL.out rfl rfl ?_)
        | (go_at_call 14; (with_reducible refine (HI.out _).mono ?_); rintro e w2 ⟨rfl, b2⟩; have BC := Lib.hid (belowThen BB.out b2 BB.out.size); clear b2))
      go_ret
      exact ⟨rfl, BC.out⟩
set_option maxRecDepth 100000 in
set_option maxHeartbeats 4000000 in
theorem walk_over (a0 : Int) (h0 : ¬ a0 < 0) (h6 : ¬ 6 < a0) (w : World) :
    Calls Try.prog 5 #[.int .i64 a0, .bool true] w fun e w' => e = .returned (.bool true) ∧ Below w.heap.size w w' := by
  obtain ⟨Z1, mk1⟩ := make_64
  obtain ⟨Z2, mk2⟩ := make_1920
  obtain ⟨Z3, mk3⟩ := make_65
  obtain ⟨Z4, mk4⟩ := make_1921
  unfold Makes at mk1 mk2 mk3 mk4
  have d6 : decide (6 < a0) = false := decide_eq_false h6
  go_enter Try.func5, Try.ntmps5
  go_upto_region 7 with (go_at_call 7; refine (alive_any _).mono ?_; rintro e w1 ⟨rfl, H1⟩; have B1 := Lib.hid H1; clear H1)
  go_cut [7] from 8 (fun s7 wx => ∃ g ka fa, s7 = .pointer (some ⟨g, 0, none⟩) ∧ Has wx g 38 (top sA ka 64 6 1000 6 1023 fa 1920).cells ∧ w.heap.size ≤ g ∧ Below w.heap.size w wx)
  case first =>
    refine wp_region_held_drew (S := fun _ => True) (by kernel_rfl) trivial ?_
    intro _
    refine wpAnyH_ready (rs := [0, 1, 3]) (by kernel_rfl) (by simp) ?_
    refine AllReadyH.cons rfl (fun K hK => ?_) (AllReadyH.cons rfl (fun K hK => ?_) (AllReadyH.cons rfl (fun K hK => ?_) AllReadyH.nil))
    · go_simp
      refine hK.out _ _ trivial (fun _ => ?_)
      clear hK K
      refine wpAnyH_ready (rs := [1, 3]) (by kernel_rfl) (by simp) ?_
      refine AllReadyH.cons rfl (fun K hK => ?_) (AllReadyH.cons rfl (fun K hK => ?_) AllReadyH.nil)
      · go_simp
        refine hK.out _ _ trivial (fun _ => ?_)
        clear hK K
        refine wpAnyH_ready (rs := [2, 3]) (by kernel_rfl) (by simp) ?_
        refine AllReadyH.cons rfl (fun K hK => ?_) (AllReadyH.cons rfl (fun K hK => ?_) AllReadyH.nil)
        · go_simp
          refine hK.out _ _ trivial (fun _ => ?_)
          clear hK K
          refine wpAnyH_ready (rs := [3]) (by kernel_rfl) (by simp) ?_
          refine AllReadyH.cons rfl (fun K hK => ?_) AllReadyH.nil
          · go_simp
            refine hK.out _ _ trivial (fun _ => ?_)
            clear hK K
            refine wpAnyH_ready (rs := [4]) (by kernel_rfl) (by simp) ?_
            refine AllReadyH.cons rfl (fun K hK => ?_) AllReadyH.nil
            · go_simp
              refine hK.out _ _ trivial (fun _ => ?_)
              clear hK K
              refine wpAnyH_done (by kernel_rfl) ?_ _
              go_wp2
              go_meet
              case rel =>
                have := B1.out.size
                first
                  | exact fin_cut (has_0 _ _ _ _) (by omega) (below_3 B1.out _ _ _).drew
                  | exact fin_cut (has_1 _ _ _ _) (by omega) (below_3 B1.out _ _ _).drew
                  | exact fin_cut (has_2 _ _ _ _) (by omega) (below_3 B1.out _ _ _).drew
        · go_simp
          refine hK.out _ _ trivial (fun _ => ?_)
          clear hK K
          refine wpAnyH_ready (rs := [2]) (by kernel_rfl) (by simp) ?_
          refine AllReadyH.cons rfl (fun K hK => ?_) AllReadyH.nil
          · go_simp
            refine hK.out _ _ trivial (fun _ => ?_)
            clear hK K
            refine wpAnyH_ready (rs := [4]) (by kernel_rfl) (by simp) ?_
            refine AllReadyH.cons rfl (fun K hK => ?_) AllReadyH.nil
            · go_simp
              refine hK.out _ _ trivial (fun _ => ?_)
              clear hK K
              refine wpAnyH_done (by kernel_rfl) ?_ _
              go_wp2
              go_meet
              case rel =>
                have := B1.out.size
                first
                  | exact fin_cut (has_0 _ _ _ _) (by omega) (below_3 B1.out _ _ _).drew
                  | exact fin_cut (has_1 _ _ _ _) (by omega) (below_3 B1.out _ _ _).drew
                  | exact fin_cut (has_2 _ _ _ _) (by omega) (below_3 B1.out _ _ _).drew
      · go_simp
        refine hK.out _ _ trivial (fun _ => ?_)
        clear hK K
        refine wpAnyH_ready (rs := [1]) (by kernel_rfl) (by simp) ?_
        refine AllReadyH.cons rfl (fun K hK => ?_) AllReadyH.nil
        · go_simp
          refine hK.out _ _ trivial (fun _ => ?_)
          clear hK K
          refine wpAnyH_ready (rs := [2]) (by kernel_rfl) (by simp) ?_
          refine AllReadyH.cons rfl (fun K hK => ?_) AllReadyH.nil
          · go_simp
            refine hK.out _ _ trivial (fun _ => ?_)
            clear hK K
            refine wpAnyH_ready (rs := [4]) (by kernel_rfl) (by simp) ?_
            refine AllReadyH.cons rfl (fun K hK => ?_) AllReadyH.nil
            · go_simp
              refine hK.out _ _ trivial (fun _ => ?_)
              clear hK K
              refine wpAnyH_done (by kernel_rfl) ?_ _
              go_wp2
              go_meet
              case rel =>
                have := B1.out.size
                first
                  | exact fin_cut (has_0 _ _ _ _) (by omega) (below_3 B1.out _ _ _).drew
                  | exact fin_cut (has_1 _ _ _ _) (by omega) (below_3 B1.out _ _ _).drew
                  | exact fin_cut (has_2 _ _ _ _) (by omega) (below_3 B1.out _ _ _).drew
    · go_simp
      refine hK.out _ _ trivial (fun _ => ?_)
      clear hK K
      refine wpAnyH_ready (rs := [0, 3]) (by kernel_rfl) (by simp) ?_
      refine AllReadyH.cons rfl (fun K hK => ?_) (AllReadyH.cons rfl (fun K hK => ?_) AllReadyH.nil)
      · go_simp
        refine hK.out _ _ trivial (fun _ => ?_)
        clear hK K
        refine wpAnyH_ready (rs := [2, 3]) (by kernel_rfl) (by simp) ?_
        refine AllReadyH.cons rfl (fun K hK => ?_) (AllReadyH.cons rfl (fun K hK => ?_) AllReadyH.nil)
        · go_simp
          refine hK.out _ _ trivial (fun _ => ?_)
          clear hK K
          refine wpAnyH_ready (rs := [3]) (by kernel_rfl) (by simp) ?_
          refine AllReadyH.cons rfl (fun K hK => ?_) AllReadyH.nil
          · go_simp
            refine hK.out _ _ trivial (fun _ => ?_)
            clear hK K
            refine wpAnyH_ready (rs := [4]) (by kernel_rfl) (by simp) ?_
            refine AllReadyH.cons rfl (fun K hK => ?_) AllReadyH.nil
            · go_simp
              refine hK.out _ _ trivial (fun _ => ?_)
              clear hK K
              refine wpAnyH_done (by kernel_rfl) ?_ _
              go_wp2
              go_meet
              case rel =>
                have := B1.out.size
                first
                  | exact fin_cut (has_0 _ _ _ _) (by omega) (below_3 B1.out _ _ _).drew
                  | exact fin_cut (has_1 _ _ _ _) (by omega) (below_3 B1.out _ _ _).drew
                  | exact fin_cut (has_2 _ _ _ _) (by omega) (below_3 B1.out _ _ _).drew
        · go_simp
          refine hK.out _ _ trivial (fun _ => ?_)
          clear hK K
          refine wpAnyH_ready (rs := [2]) (by kernel_rfl) (by simp) ?_
          refine AllReadyH.cons rfl (fun K hK => ?_) AllReadyH.nil
          · go_simp
            refine hK.out _ _ trivial (fun _ => ?_)
            clear hK K
            refine wpAnyH_ready (rs := [4]) (by kernel_rfl) (by simp) ?_
            refine AllReadyH.cons rfl (fun K hK => ?_) AllReadyH.nil
            · go_simp
              refine hK.out _ _ trivial (fun _ => ?_)
              clear hK K
              refine wpAnyH_done (by kernel_rfl) ?_ _
              go_wp2
              go_meet
              case rel =>
                have := B1.out.size
                first
                  | exact fin_cut (has_0 _ _ _ _) (by omega) (below_3 B1.out _ _ _).drew
                  | exact fin_cut (has_1 _ _ _ _) (by omega) (below_3 B1.out _ _ _).drew
                  | exact fin_cut (has_2 _ _ _ _) (by omega) (below_3 B1.out _ _ _).drew
      · go_simp
        refine hK.out _ _ trivial (fun _ => ?_)
        clear hK K
        refine wpAnyH_ready (rs := [0]) (by kernel_rfl) (by simp) ?_
        refine AllReadyH.cons rfl (fun K hK => ?_) AllReadyH.nil
        · go_simp
          refine hK.out _ _ trivial (fun _ => ?_)
          clear hK K
          refine wpAnyH_ready (rs := [2]) (by kernel_rfl) (by simp) ?_
          refine AllReadyH.cons rfl (fun K hK => ?_) AllReadyH.nil
          · go_simp
            refine hK.out _ _ trivial (fun _ => ?_)
            clear hK K
            refine wpAnyH_ready (rs := [4]) (by kernel_rfl) (by simp) ?_
            refine AllReadyH.cons rfl (fun K hK => ?_) AllReadyH.nil
            · go_simp
              refine hK.out _ _ trivial (fun _ => ?_)
              clear hK K
              refine wpAnyH_done (by kernel_rfl) ?_ _
              go_wp2
              go_meet
              case rel =>
                have := B1.out.size
                first
                  | exact fin_cut (has_0 _ _ _ _) (by omega) (below_3 B1.out _ _ _).drew
                  | exact fin_cut (has_1 _ _ _ _) (by omega) (below_3 B1.out _ _ _).drew
                  | exact fin_cut (has_2 _ _ _ _) (by omega) (below_3 B1.out _ _ _).drew
    · go_simp
      refine hK.out _ _ trivial (fun _ => ?_)
      clear hK K
      refine wpAnyH_ready (rs := [0, 1]) (by kernel_rfl) (by simp) ?_
      refine AllReadyH.cons rfl (fun K hK => ?_) (AllReadyH.cons rfl (fun K hK => ?_) AllReadyH.nil)
      · go_simp
        refine hK.out _ _ trivial (fun _ => ?_)
        clear hK K
        refine wpAnyH_ready (rs := [1]) (by kernel_rfl) (by simp) ?_
        refine AllReadyH.cons rfl (fun K hK => ?_) AllReadyH.nil
        · go_simp
          refine hK.out _ _ trivial (fun _ => ?_)
          clear hK K
          refine wpAnyH_ready (rs := [2]) (by kernel_rfl) (by simp) ?_
          refine AllReadyH.cons rfl (fun K hK => ?_) AllReadyH.nil
          · go_simp
            refine hK.out _ _ trivial (fun _ => ?_)
            clear hK K
            refine wpAnyH_ready (rs := [4]) (by kernel_rfl) (by simp) ?_
            refine AllReadyH.cons rfl (fun K hK => ?_) AllReadyH.nil
            · go_simp
              refine hK.out _ _ trivial (fun _ => ?_)
              clear hK K
              refine wpAnyH_done (by kernel_rfl) ?_ _
              go_wp2
              go_meet
              case rel =>
                have := B1.out.size
                first
                  | exact fin_cut (has_0 _ _ _ _) (by omega) (below_3 B1.out _ _ _).drew
                  | exact fin_cut (has_1 _ _ _ _) (by omega) (below_3 B1.out _ _ _).drew
                  | exact fin_cut (has_2 _ _ _ _) (by omega) (below_3 B1.out _ _ _).drew
      · go_simp
        refine hK.out _ _ trivial (fun _ => ?_)
        clear hK K
        refine wpAnyH_ready (rs := [0]) (by kernel_rfl) (by simp) ?_
        refine AllReadyH.cons rfl (fun K hK => ?_) AllReadyH.nil
        · go_simp
          refine hK.out _ _ trivial (fun _ => ?_)
          clear hK K
          refine wpAnyH_ready (rs := [2]) (by kernel_rfl) (by simp) ?_
          refine AllReadyH.cons rfl (fun K hK => ?_) AllReadyH.nil
          · go_simp
            refine hK.out _ _ trivial (fun _ => ?_)
            clear hK K
            refine wpAnyH_ready (rs := [4]) (by kernel_rfl) (by simp) ?_
            refine AllReadyH.cons rfl (fun K hK => ?_) AllReadyH.nil
            · go_simp
              refine hK.out _ _ trivial (fun _ => ?_)
              clear hK K
              refine wpAnyH_done (by kernel_rfl) ?_ _
              go_wp2
              go_meet
              case rel =>
                have := B1.out.size
                first
                  | exact fin_cut (has_0 _ _ _ _) (by omega) (below_3 B1.out _ _ _).drew
                  | exact fin_cut (has_1 _ _ _ _) (by omega) (below_3 B1.out _ _ _).drew
                  | exact fin_cut (has_2 _ _ _ _) (by omega) (below_3 B1.out _ _ _).drew
  case rest =>
    obtain ⟨g, ka, fa, rfl, H, hg, hb⟩ := hcut
    have hsplit : a0 = 0 ∨ a0 = 1 ∨ a0 = 2 ∨ a0 = 3 ∨ a0 = 4 ∨ a0 = 5 ∨ a0 = 6 := by omega
    clear h0 h6 d6
    rcases hsplit with rfl | rfl | rfl | rfl | rfl | rfl | rfl
    · have H0 := H.more (.cells Z3 5)
      have B0 := hb.alloc hb.size (.cells Z3 5)
      have y0 := H0.at 1
      have z0 := H0.soft 1
      have H1 := has_put (d := (top sA (some ⟨wc.heap.size, 0, none⟩) 65 6 1000 6 1023 fa 1920)) H0 1 (.slice (some ⟨wc.heap.size, 0, none⟩) 65 65) rfl
      have B1 := B0.setCell (p := ⟨g, 1, none⟩) hg (.slice (some ⟨wc.heap.size, 0, none⟩) 65 65)
      have HL := Lib.hid (ld_b H1)
      have HI := Lib.hid (fun W => right_is W (top_ok (s := sA) (by decide) (some ⟨wc.heap.size, 0, none⟩) 65 (sl := 6) (bu := 1000) (qu := 6) (ri := 1023) ⟨⟨by omega, by omega⟩, ⟨by omega, by omega⟩, ⟨by omega, by omega⟩, by omega, by omega⟩ fa 1920) (top_right (some ⟨wc.heap.size, 0, none⟩) 65 6 1000 6 1023 fa 1920 false validA rfl))
      have BB := Lib.hid B1
      clear H0 H1 B0 B1 H hb
      go_wp2_with (first
        | (refine wpList_ld 38 _ rfl _ _ HL.out rfl rfl ?_)
        | (go_at_call 14; (with_reducible refine (HI.out _).mono ?_); rintro e w2 ⟨rfl, b2⟩; have BC := Lib.hid (belowThen BB.out b2 BB.out.size); clear b2))
      go_ret
      exact ⟨rfl, BC.out⟩
    · have H0 := H
      have B0 := hb
      have y0 := H0.at 2
      have z0 := H0.soft 2
      have H1 := has_put (d := (top sA ka 64 7 1000 6 1023 fa 1920)) H0 2 (.int .i64 7) rfl
      have B1 := B0.setCell (p := ⟨g, 2, none⟩) hg (.int .i64 7)
      have y1 := H1.at 4
      have z1 := H1.soft 4
      have H2 := has_put (d := (top sA ka 64 7 1000 6 1023 fa 1920)) H1 4 (.int .i64 6) rfl
      have B2 := B1.setCell (p := ⟨g, 4, none⟩) hg (.int .i64 6)
      have HL := Lib.hid (ld_b H2)
      have HI := Lib.hid (fun W => right_is W (top_ok (s := sA) (by decide) ka 64 (sl := 7) (bu := 1000) (qu := 6) (ri := 1023) ⟨⟨by omega, by omega⟩, ⟨by omega, by omega⟩, ⟨by omega, by omega⟩, by omega, by omega⟩ fa 1920) (top_right ka 64 7 1000 6 1023 fa 1920 false validA rfl))
      have BB := Lib.hid B2
      clear H0 H1 H2 B0 B1 B2 H hb
      go_wp2_with (first
        | (refine wpList_ld 38 _ rfl _ _ HL.out rfl rfl ?_)
        | (go_at_call 14; (with_reducible refine (HI.out _).mono ?_); rintro e w2 ⟨rfl, b2⟩; have BC := Lib.hid (belowThen BB.out b2 BB.out.size); clear b2))
      go_ret
      exact ⟨rfl, BC.out⟩
    · have H0 := H
      have B0 := hb
      have y0 := H0.at 3
      have z0 := H0.soft 3
      have H1 := has_put (d := (top sA ka 64 6 1001 6 1023 fa 1920)) H0 3 (.int .i64 1001) rfl
      have B1 := B0.setCell (p := ⟨g, 3, none⟩) hg (.int .i64 1001)
      have HL := Lib.hid (ld_b H1)
      have HI := Lib.hid (fun W => right_is W (top_ok (s := sA) (by decide) ka 64 (sl := 6) (bu := 1001) (qu := 6) (ri := 1023) ⟨⟨by omega, by omega⟩, ⟨by omega, by omega⟩, ⟨by omega, by omega⟩, by omega, by omega⟩ fa 1920) (top_right ka 64 6 1001 6 1023 fa 1920 false validA rfl))
      have BB := Lib.hid B1
      clear H0 H1 B0 B1 H hb
      go_wp2_with (first
        | (refine wpList_ld 38 _ rfl _ _ HL.out rfl rfl ?_)
        | (go_at_call 14; (with_reducible refine (HI.out _).mono ?_); rintro e w2 ⟨rfl, b2⟩; have BC := Lib.hid (belowThen BB.out b2 BB.out.size); clear b2))
      go_ret
      exact ⟨rfl, BC.out⟩
    · have H0 := H
      have B0 := hb
      have y0 := H0.at 4
      have z0 := H0.soft 4
      have H1 := has_put (d := (top sA ka 64 6 1000 7 1023 fa 1920)) H0 4 (.int .i64 7) rfl
      have B1 := B0.setCell (p := ⟨g, 4, none⟩) hg (.int .i64 7)
      have HL := Lib.hid (ld_b H1)
      have HI := Lib.hid (fun W => right_is W (top_ok (s := sA) (by decide) ka 64 (sl := 6) (bu := 1000) (qu := 7) (ri := 1023) ⟨⟨by omega, by omega⟩, ⟨by omega, by omega⟩, ⟨by omega, by omega⟩, by omega, by omega⟩ fa 1920) (top_right ka 64 6 1000 7 1023 fa 1920 false validA rfl))
      have BB := Lib.hid B1
      clear H0 H1 B0 B1 H hb
      go_wp2_with (first
        | (refine wpList_ld 38 _ rfl _ _ HL.out rfl rfl ?_)
        | (go_at_call 14; (with_reducible refine (HI.out _).mono ?_); rintro e w2 ⟨rfl, b2⟩; have BC := Lib.hid (belowThen BB.out b2 BB.out.size); clear b2))
      go_ret
      exact ⟨rfl, BC.out⟩
    · have H0 := H
      have B0 := hb
      have y0 := H0.at 5
      have z0 := H0.soft 5
      have H1 := has_put (d := (top sA ka 64 6 1000 6 1024 fa 1920)) H0 5 (.int .i64 1024) rfl
      have B1 := B0.setCell (p := ⟨g, 5, none⟩) hg (.int .i64 1024)
      have HL := Lib.hid (ld_b H1)
      have HI := Lib.hid (fun W => right_is W (top_ok (s := sA) (by decide) ka 64 (sl := 6) (bu := 1000) (qu := 6) (ri := 1024) ⟨⟨by omega, by omega⟩, ⟨by omega, by omega⟩, ⟨by omega, by omega⟩, by omega, by omega⟩ fa 1920) (top_right ka 64 6 1000 6 1024 fa 1920 false validA rfl))
      have BB := Lib.hid B1
      clear H0 H1 B0 B1 H hb
      go_wp2_with (first
        | (refine wpList_ld 38 _ rfl _ _ HL.out rfl rfl ?_)
        | (go_at_call 14; (with_reducible refine (HI.out _).mono ?_); rintro e w2 ⟨rfl, b2⟩; have BC := Lib.hid (belowThen BB.out b2 BB.out.size); clear b2))
      go_ret
      exact ⟨rfl, BC.out⟩
    · have H0 := H.more (.cells Z4 5)
      have B0 := hb.alloc hb.size (.cells Z4 5)
      have y0 := H0.at 6
      have z0 := H0.soft 6
      have H1 := has_put (d := (top sA ka 64 6 1000 6 1023 (some ⟨wc.heap.size, 0, none⟩) 1921)) H0 6 (.slice (some ⟨wc.heap.size, 0, none⟩) 1921 1921) rfl
      have B1 := B0.setCell (p := ⟨g, 6, none⟩) hg (.slice (some ⟨wc.heap.size, 0, none⟩) 1921 1921)
      have HL := Lib.hid (ld_b H1)
      have HI := Lib.hid (fun W => right_is W (top_ok (s := sA) (by decide) ka 64 (sl := 6) (bu := 1000) (qu := 6) (ri := 1023) ⟨⟨by omega, by omega⟩, ⟨by omega, by omega⟩, ⟨by omega, by omega⟩, by omega, by omega⟩ (some ⟨wc.heap.size, 0, none⟩) 1921) (top_right ka 64 6 1000 6 1023 (some ⟨wc.heap.size, 0, none⟩) 1921 false validA rfl))
      have BB := Lib.hid B1
      clear H0 H1 B0 B1 H hb
      go_wp2_with (first
        | (refine wpList_ld 38 _ rfl _ _ HL.out rfl rfl ?_)
        | (go_at_call 14; (with_reducible refine (HI.out _).mono ?_); rintro e w2 ⟨rfl, b2⟩; have BC := Lib.hid (belowThen BB.out b2 BB.out.size); clear b2))
      go_ret
      exact ⟨rfl, BC.out⟩
    · have H0 := H
      have B0 := hb
      have y0 := H0.at 0
      have z0 := H0.soft 0
      have H1 := has_put (d := (top s9 ka 64 6 1000 6 1023 fa 1920)) H0 0 (.string s9) rfl
      have B1 := B0.setCell (p := ⟨g, 0, none⟩) hg (.string s9)
      have HL := Lib.hid (ld_b H1)
      have HI := Lib.hid (fun W => right_is W (top_ok (s := s9) (by decide) ka 64 (sl := 6) (bu := 1000) (qu := 6) (ri := 1023) ⟨⟨by omega, by omega⟩, ⟨by omega, by omega⟩, ⟨by omega, by omega⟩, by omega, by omega⟩ fa 1920) (top_name ka 64 6 1000 6 1023 fa 1920 valid9))
      have BB := Lib.hid B1
      clear H0 H1 B0 B1 H hb
      go_wp2_with (first
        | (refine wpList_ld 38 _ rfl _ _ HL.out rfl rfl ?_)
        | (go_at_call 14; (with_reducible refine (HI.out _).mono ?_); rintro e w2 ⟨rfl, b2⟩; have BC := Lib.hid (belowThen BB.out b2 BB.out.size); clear b2))
      go_ret
      exact ⟨rfl, BC.out⟩
theorem walk (a0 : Int) (a1 : Bool) (w0 : (Lit.int .i64 a0).wf = true) (w : World) :
    Calls Try.prog 5 #[.int .i64 a0, .bool a1] w fun e w' => e = .returned (.bool true) ∧ Below w.heap.size w w' := by
  clear w0
  by_cases h0 : a0 < 0
  · go_enter Try.func5, Try.ntmps5
    go_wp2_with (go_at_call 7; refine (alive_any _).mono ?_; rintro e w1 ⟨rfl, H1⟩)
    go_ret
    exact ⟨rfl, H1⟩
  by_cases h6 : 6 < a0
  · have d6 : decide (6 < a0) = true := decide_eq_true h6
    go_enter Try.func5, Try.ntmps5
    go_wp2_with (go_at_call 7; refine (alive_any _).mono ?_; rintro e w1 ⟨rfl, H1⟩)
    go_ret
    exact ⟨rfl, H1⟩
  cases a1 with
  | false => exact walk_under a0 h0 h6 w
  | true => exact walk_over a0 h0 h6 w
end Go.Proofs.Ytljkngalnoepmaa.capsLimits
