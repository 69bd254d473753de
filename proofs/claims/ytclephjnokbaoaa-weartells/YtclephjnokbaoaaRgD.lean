/-
  The document's own calls of a ring: last, Last, Next, May, PutRing; conditions: the area and its flash are there.
-/
import Derived.Test.YtclephjnokbaoaaRgM
import Derived.Test.YtclephjnokbaoaaRgS
import Derived.Test.YtclephjnokbaoaaRna
namespace Go.Proofs.Ytclephjnokbaoaa
open Go.RowKit
set_option linter.unusedVariables false
set_option linter.unusedSimpArgs false

/-- The sector of the last one, below 0 where there is none. -/
def Hd.at' (h : Hd) : Int := if 0 < h.seq then (h.sec : Int) else -1
theorem at_no {h : Hd} (e : h.seq = 0) : h.at' = -1 := by unfold Hd.at'; rw [if_neg (by omega)]
theorem at_yes {h : Hd} (e : 0 < h.seq) : h.at' = (h.sec : Int) := if_pos e
/-- So many sectors are looked at. -/
def Rlooks (S : Fs) (P : Pt) (w : World) (v5 v6 v7 v8 : Value) (wr : World) : Prop :=
  ∃ q : Nat, v5 = .int .i64 (look S P q).at' ∧ v6 = .int .i64 (look S P q).seq ∧ v8 = .int .i64 (q : Int) ∧ q ≤ 4 ∧ Own wr w.heap.size v7 (look S P q).load.length (look S P q).load ∧ Below w.heap.size w wr
/-- What last answers. -/
def Rlasts (h : Hd) (w : World) (e : Ending) (w' : World) : Prop := ∃ v, e = .returned (.tuple #[.int .i64 h.at', .int .i64 h.seq, v]) ∧ Own w' w.heap.size v h.load.length h.load ∧ Below w.heap.size w w'
set_option maxRecDepth 100000 in
set_option maxHeartbeats 1000000 in
theorem rfind_any {T x g m k : Nat} {S : Fs} {P : Pt} (w : World) (ha : Rar w x g P) (hf : Rl w T g m k S) (hp : P.Ok S.wear.length) : Calls Try.prog 38 #[.pointer (some ⟨x, 0, none⟩)] w (Rlasts (hdOf S P) w) := by
  have HA := Lib.hid ha
  have HF := Lib.hid hf
  have HP := Lib.hid hp
  by_cases hc : 4 ≤ P.cnt
  · rw [hd_yes hc]
    have HC := Lib.hid hc
    have c4 : (4 : Int) ≤ (P.cnt : Int) := by omega
    have HS := Lib.hid (show Rlooks S P w (.int .i64 (-1)) (.int .i64 0) (.slice none 0 0) (.int .i64 0) w from ⟨0, by rw [at_no rfl], rfl, rfl, by omega, own_nil _ _, Below.refl _ _⟩)
    clear ha hf hp hc
    go_enter Try.func38, Try.ntmps38
    go_wp2_with fail
    go_loopw [5, 6, 7, 8] (Rlooks S P w) (fun _ _ _ i _ => 4 - (intOf i).toNat)
    case atStart => exact HS.out
    case round =>
      clear HS
      obtain ⟨q, rfl, rfl, rfl, hq, hO, hB⟩ := hrel
      have HO := Lib.hid hO
      have HB := Lib.hid hB
      obtain ⟨_, _, cc, _⟩ := ra_cells (HA.out.kept HB.out)
      clear hO hB
      by_cases hlt : q < 4
      · have i1 : (q : Int) < 4 := by omega
        have q1 : IntKind.i64.wrap ((q : Int) + 1) = (q : Int) + 1 := by rw [IntKind.wrap_i64]; omega
        have HRd := Lib.hid (raread_any (q : Int) 0 320 _ (HA.out.kept HB.out) (HF.out.kept HB.out) HP.out ⟨by omega, by omega⟩ ⟨by omega, by omega⟩)
        have HLn := Lib.hid (sec_len HF.out.ok HP.out HC.out hlt)
        by_cases hg : Good (secL S P q)
        · have HG := Lib.hid hg
          by_cases hn : (look S P q).seq < seqN (secL S P q)
          · have HN := Lib.hid (look_yes (S := S) (P := P) (k := q) ⟨hg, hn⟩)
            have HPos := Lib.hid (show 0 < seqN (secL S P q) by have := (look_seq S P q).1; omega)
            replace hn : (look S P q).seq < seqN (aRead S P (q : Int) 0 320) := hn
            clear hg
            go_wp2_with (first
              | (go_at_call 52; (with_reducible refine HRd.out.mono ?_); rintro e w2 ⟨A2, c2, rfl, _, r2, _, H2⟩; have HLn2 : (aRead S P (q : Int) 0 320).length = 320 := HLn.out; rw [HLn2] at r2 ⊢; have HGt := Lib.hid (rcget_any A2 320 c2 _ w2 r2 (by omega)); clear HRd r2 HLn2)
              | (go_at_call 51; (with_reducible refine HGt.out.mono ?_); rintro e w3 ⟨n3, v3, rs, b, rfl, hcl, o3, H3⟩; clear HGt; obtain ⟨rfl, rfl, rfl⟩ := hcl.some HG.out; have b3 := Lib.hid (belowThen H2 H3); have HO3 := Lib.hid o3; have HBS := Lib.hid (Nat.le_trans HB.out.size H2.size); clear hcl H2 H3 o3))
            go_roundw
            case rel => exact ⟨q + 1, by rw [HN.out, at_yes HPos.out], by rw [HN.out]; rfl, by simp, by omega, by rw [HN.out]; exact HO3.out.lower HBS.out, belowThen HB.out b3.out⟩
            case measure => simp only [intOf]; omega
          · have HN := Lib.hid (look_no (S := S) (P := P) (k := q) (fun h => hn h.2))
            replace hn : ¬ (look S P q).seq < seqN (aRead S P (q : Int) 0 320) := hn
            clear hg
            go_wp2_with (first
              | (go_at_call 52; (with_reducible refine HRd.out.mono ?_); rintro e w2 ⟨A2, c2, rfl, _, r2, _, H2⟩; have HLn2 : (aRead S P (q : Int) 0 320).length = 320 := HLn.out; rw [HLn2] at r2 ⊢; have HGt := Lib.hid (rcget_any A2 320 c2 _ w2 r2 (by omega)); clear HRd r2 HLn2)
              | (go_at_call 51; (with_reducible refine HGt.out.mono ?_); rintro e w3 ⟨n3, v3, rs, b, rfl, hcl, o3, H3⟩; clear HGt; obtain ⟨rfl, rfl, rfl⟩ := hcl.some HG.out; have b3 := Lib.hid (belowThen H2 H3); have HO3 := Lib.hid o3; have HBS := Lib.hid (Nat.le_trans HB.out.size H2.size); clear hcl H2 H3 o3))
            go_roundw
            case rel => exact ⟨q + 1, by rw [HN.out], by rw [HN.out], by simp, by omega, by rw [HN.out]; exact HO.out.kept b3.out, belowThen HB.out b3.out⟩
            case measure => simp only [intOf]; omega
        · have HN := Lib.hid (look_no (S := S) (P := P) (k := q) (fun h => hg h.1))
          have HG := Lib.hid hg
          clear hg
          go_wp2_with (first
            | (go_at_call 52; (with_reducible refine HRd.out.mono ?_); rintro e w2 ⟨A2, c2, rfl, _, r2, _, H2⟩; have HLn2 : (aRead S P (q : Int) 0 320).length = 320 := HLn.out; rw [HLn2] at r2 ⊢; have HGt := Lib.hid (rcget_any A2 320 c2 _ w2 r2 (by omega)); clear HRd r2 HLn2)
            | (go_at_call 51; (with_reducible refine HGt.out.mono ?_); rintro e w3 ⟨n3, v3, rs, b, rfl, hcl, o3, H3⟩; clear HGt; obtain ⟨rfl, rfl, rfl⟩ := hcl.none HG.out; have b3 := Lib.hid (belowThen H2 H3); have HO3 := Lib.hid o3; have HBS := Lib.hid (Nat.le_trans HB.out.size H2.size); clear hcl H2 H3 o3))
          go_roundw
          case rel => exact ⟨q + 1, by rw [HN.out], by rw [HN.out], by simp, by omega, by rw [HN.out]; exact HO.out.kept b3.out, belowThen HB.out b3.out⟩
          case measure => simp only [intOf]; omega
      · obtain rfl : q = 4 := by omega
        go_wp2
        go_ret3
        exact ⟨_, rfl, HO.out, HB.out⟩
  · rw [hd_no hc]
    obtain ⟨_, _, cc, _⟩ := ra_cells ha
    have c4 : ¬ (4 : Int) ≤ (P.cnt : Int) := by omega
    clear ha hf hp hc HA HF HP
    go_enter Try.func38, Try.ntmps38
    go_wp2_with fail
    go_loopw [5, 6, 7, 8] (fun v5 v6 v7 v8 wr => v5 = .int .i64 (-1) ∧ v6 = .int .i64 0 ∧ v7 = .slice none 0 0 ∧ v8 = .int .i64 0 ∧ w = wr) (fun _ _ _ _ _ => 0)
    case atStart => exact ⟨rfl, rfl, rfl, rfl, rfl⟩
    case round =>
      obtain ⟨rfl, rfl, rfl, rfl, rfl⟩ := hrel
      go_wp2
      go_ret3
      exact ⟨_, rfl, own_nil _ _, Below.refl _ _⟩
theorem rnext_is {h : Hd} (hs : h.sec ≤ 3) (hz : h.seq = 0 → h.sec = 3) (h0 : 0 ≤ h.seq) : (IntKind.i64.wrap (h.at' + 1)).tmod 4 = (h.next : Int) := by
  unfold Hd.next
  by_cases e : 0 < h.seq
  · rw [at_yes e, IntKind.wrap_i64]
    obtain h1 | h1 | h1 | h1 : h.sec = 0 ∨ h.sec = 1 ∨ h.sec = 2 ∨ h.sec = 3 := by omega
    all_goals (rw [h1]; decide)
  · rw [at_no (by omega), hz (by omega), IntKind.wrap_i64]
    decide
theorem look_zero (S : Fs) (P : Pt) : ∀ k, (look S P k).seq = 0 → (look S P k).sec = 3
  | 0, _ => rfl
  | k + 1, h => by
    by_cases h1 : Newer S P (look S P k) k
    · rw [look_yes h1] at h
      have := h1.1.2.2.1
      simp only [] at h
      omega
    · rw [look_no h1] at h ⊢
      exact look_zero S P k h
theorem hd_zero (S : Fs) (P : Pt) (h : (hdOf S P).seq = 0) : (hdOf S P).sec = 3 := by
  unfold hdOf at *
  split
  · rename_i hc
    rw [if_pos hc] at h
    exact look_zero S P 4 h
  · rfl
set_option maxRecDepth 100000 in
theorem rnext_any {T x g m k : Nat} {S : Fs} {P : Pt} (w : World) (ha : Rar w x g P) (hf : Rl w T g m k S) (hp : P.Ok S.wear.length) : Calls Try.prog 37 #[.pointer (some ⟨x, 0, none⟩)] w fun e w' => e = .returned (.int .i64 ((hdOf S P).next : Int)) ∧ Below w.heap.size w w' := by
  have HFi := Lib.hid (rfind_any w ha hf hp)
  have hq := hd_seq S P
  have hn := rnext_is (hd_sec S P) (hd_zero S P) hq.1
  have HN := Lib.hid hn
  have ha' : IntKind.i64.wrap ((hdOf S P).at' + 1) = (hdOf S P).at' + 1 := by
    have := hd_sec S P
    rw [IntKind.wrap_i64]
    unfold Hd.at'
    split <;> omega
  rw [ha'] at HN
  clear ha hf hp hq hn
  go_enter Try.func37, Try.ntmps37
  go_wp2_with (go_at_call 38; (with_reducible refine HFi.out.mono ?_); rintro e w1 ⟨v1, rfl, o1, H1⟩; clear HFi)
  go_ret
  exact ⟨ret_int HN.out, H1⟩
end Go.Proofs.Ytclephjnokbaoaa
