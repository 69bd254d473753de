/-
  The calls that read a cell: the program's Get and the document's own; conditions: the row reads as bytes.
-/
import Derived.Test.YtclephjnokbaoaaCeCput
namespace Go.Proofs.Ytclephjnokbaoaa
open Go.RowKit
set_option linter.unusedVariables false
set_option linter.unusedSimpArgs false

/-- What a Get answers. -/
def Gets (zs : List Int) (w : World) (e : Ending) (w' : World) : Prop := ∃ n v rs b, e = .returned (.tuple #[.int .i64 n, v, .bool b]) ∧ Cell zs n rs b ∧ Own w' w.heap.size v rs.length rs ∧ Below w.heap.size w w'
theorem gets_none {zs : List Int} {w w' : World} (h : ¬ Good zs) (hb : Below w.heap.size w w') : Gets zs w (.returned (.tuple #[.int .i64 0, .slice none 0 0, .bool false])) w' :=
  ⟨0, _, [], false, rfl, .inr ⟨h, rfl, rfl, rfl⟩, own_nil _ _, hb⟩
set_option maxRecDepth 100000 in
theorem cget_any (A : Option Addr) (m c : Nat) (zs : List Int) (w : World) (hr : Row w A m zs) :
    Calls Try.prog 58 #[.slice A m c] w (Gets zs w) := by
  by_cases hm : m = 320
  · subst hm
    have hl := hr.1
    have HD := Lib.hid (get_any A 320 c zs w hr (by omega))
    have HZ := Lib.hid hr.2.1
    clear hr
    by_cases hw : Whole zs
    · have HW := Lib.hid hw
      clear hw
      have he : zs.length / 2 = 160 := by omega
      have HEL := Lib.hid (ev_len zs 160)
      have HEB := Lib.hid (ev_byt HZ.out 160)
      by_cases hq : Seq (seqN zs)
      · have HG := Lib.hid (show Good zs from ⟨hl, HW.out, hq⟩)
        have HQ := Lib.hid hq
        clear hq hl
        go_enter Try.func58, Try.ntmps58
        go_wp2_with (first
          | (go_at_call 71; (with_reducible refine HD.out.mono ?_); rintro e w1 ⟨v1, rs, b, rfl, hrd, o1, b1⟩; clear HD; obtain ⟨h5, h6⟩ := hrd.some HW.out; subst h6; rw [he] at h5; rw [h5, HEL.out] at o1; obtain ⟨A1, c1, rfl, _, r1, _⟩ := o1.form; clear o1 h5 hrd; have HR := Lib.hid (newReader_any A1 160 c1 _ w1 r1 (by omega)); clear r1)
          | (go_at_call 72; (with_reducible refine HR.out.mono ?_); rintro e w2 ⟨r, rfl, hr2, hd2, b2⟩; clear HR; have HN := Lib.hid (num_any 4 w2 hd2); rw [got_seq HEB.out HEL.out, aft_seq HEL.out] at HN; replace HN : Hid (Calls Try.prog 73 #[.pointer (some ⟨r, 0, none⟩), .int .i64 4] w2 (GivesN (seqN zs) (RdTo r r ⟨(evL zs 160).drop 4, false⟩ w2))) := HN)
          | (go_at_call 73; (with_reducible refine HN.out.mono ?_); rintro e w3 ⟨rfl, hd3, o3⟩; clear HN hd2; have HS := Lib.hid (isSeq_yes _ w3 HQ.out); have HE := Lib.hid (raw_any 156 w3 hd3); rw [got_load HEL.out] at HE; clear hd3)
          | (go_at_call 74; (with_reducible refine HS.out.mono ?_); rintro e w4 ⟨rfl, rfl⟩; clear HS)
          | (go_at_call 75; (with_reducible refine HE.out.mono ?_); rintro e w5 ⟨v5, rfl, o5, hd5, q5⟩; clear HE))
        have s1 := b1.size
        have s2 := b2.size
        have s3 := o3.size
        have c3 : Below w.heap.size w w3 := (belowThen b1 b2).trans (o3.to_below (by omega) (fun b e => by omega))
        have c5 : Below w.heap.size w w5 := c3.trans (q5.to_below (by omega) (fun b e => by omega))
        go_ret3
        exact ⟨seqN zs, v5, loadL zs, true, rfl, .inl ⟨HG.out, rfl, rfl, rfl⟩, o5.lower (by omega), c5⟩
      · have HG := Lib.hid (show ¬ Good zs from fun g => hq g.2.2)
        have HQ := Lib.hid hq
        clear hq hl
        go_enter Try.func58, Try.ntmps58
        go_wp2_with (first
          | (go_at_call 71; (with_reducible refine HD.out.mono ?_); rintro e w1 ⟨v1, rs, b, rfl, hrd, o1, b1⟩; clear HD; obtain ⟨h5, h6⟩ := hrd.some HW.out; subst h6; rw [he] at h5; rw [h5, HEL.out] at o1; obtain ⟨A1, c1, rfl, _, r1, _⟩ := o1.form; clear o1 h5 hrd; have HR := Lib.hid (newReader_any A1 160 c1 _ w1 r1 (by omega)); clear r1)
          | (go_at_call 72; (with_reducible refine HR.out.mono ?_); rintro e w2 ⟨r, rfl, hr2, hd2, b2⟩; clear HR; have HN := Lib.hid (num_any 4 w2 hd2); rw [got_seq HEB.out HEL.out, aft_seq HEL.out] at HN; replace HN : Hid (Calls Try.prog 73 #[.pointer (some ⟨r, 0, none⟩), .int .i64 4] w2 (GivesN (seqN zs) (RdTo r r ⟨(evL zs 160).drop 4, false⟩ w2))) := HN)
          | (go_at_call 73; (with_reducible refine HN.out.mono ?_); rintro e w3 ⟨rfl, hd3, o3⟩; clear HN hd2 hd3; have HS := Lib.hid (isSeq_no _ w3 HQ.out))
          | (go_at_call 74; (with_reducible refine HS.out.mono ?_); rintro e w4 ⟨rfl, rfl⟩; clear HS))
        have s1 := b1.size
        have s2 := b2.size
        have c3 : Below w.heap.size w w3 := (belowThen b1 b2).trans (o3.to_below (by omega) (fun b e => by omega))
        go_ret3
        exact gets_none HG.out c3
    · have HG := Lib.hid (show ¬ Good zs from fun g => hw g.2.1)
      have HW := Lib.hid hw
      clear hw hl
      go_enter Try.func58, Try.ntmps58
      go_wp2_with (go_at_call 71; (with_reducible refine HD.out.mono ?_); rintro e w1 ⟨v1, rs, b, rfl, hrd, o1, b1⟩; clear HD; obtain ⟨h5, h6⟩ := hrd.none HW.out; subst h6; clear o1 h5 hrd)
      go_ret3
      exact gets_none HG.out b1
  · have HG := Lib.hid (show ¬ Good zs from fun g => hm (by rw [← hr.1]; exact g.1))
    have hne : ¬ (m : Int) = 320 := by omega
    clear hr hm
    go_enter Try.func58, Try.ntmps58
    go_wp2
    go_ret3
    exact gets_none HG.out (Below.refl _ _)
set_option maxRecDepth 100000 in
theorem rcget_any (A : Option Addr) (m c : Nat) (zs : List Int) (w : World) (hr : Row w A m zs) (hle : m ≤ 100000) :
    Calls Try.prog 51 #[.slice A m c] w (Gets zs w) := by
  have HD := Lib.hid (rget_any A m c zs w hr hle)
  have HZ := Lib.hid hr.2.1
  by_cases hw : Whole zs
  · have HW := Lib.hid hw
    clear hw
    by_cases hm : m = 320
    · subst hm
      have hl := hr.1
      clear hr
      have he : zs.length / 2 = 160 := by omega
      have HEL := Lib.hid (ev_len zs 160)
      have HEB := Lib.hid (ev_byt HZ.out 160)
      by_cases hq : Seq (seqN zs)
      · have HG := Lib.hid (show Good zs from ⟨hl, HW.out, hq⟩)
        have q1 := hq.1
        have q2 := hq.2
        have d1 : ¬ seqN zs < 1 := by omega
        have d2 : ¬ 2147483647 < seqN zs := by omega
        clear hq hl q1 q2
        go_enter Try.func51, Try.ntmps51
        go_wp2_with (first
          | (go_at_call 63; (with_reducible refine HD.out.mono ?_); rintro e w1 ⟨v1, rs, b, rfl, hrd, o1, b1⟩; clear HD; obtain ⟨h5, h6⟩ := hrd.some HW.out; subst h6; rw [he] at h5; rw [h5, HEL.out] at o1; obtain ⟨A1, c1, rfl, hc1, r1, _⟩ := o1.form; clear o1 h5 hrd; have HR := Lib.hid (rnewReader_any A1 160 c1 _ w1 r1 (by omega) hc1 w1.heap.size (Nat.le_refl _) (row_lies r1)); clear r1)
          | (go_at_call 64; (with_reducible refine HR.out.mono ?_); rintro e w2 ⟨rfl, hd2, b2⟩; clear HR; have HN := Lib.hid (rnum_any 4 w2 hd2); rw [got_seq HEB.out HEL.out, aft_seq HEL.out] at HN; replace HN : Hid (Calls Try.prog 65 #[.pointer (some ⟨w1.heap.size, 0, none⟩), .int .i64 4] w2 (GivesN (seqN zs) (RrTo w1.heap.size w1.heap.size ⟨(evL zs 160).drop 4, false⟩ w2))) := HN)
          | (go_at_call 65; (with_reducible refine HN.out.mono ?_); rintro e w3 ⟨rfl, hd3, o3⟩; clear HN hd2; have HE := Lib.hid (rraw_any 156 w3 hd3); rw [got_load HEL.out] at HE; clear hd3)
          | (go_at_call 66; (with_reducible refine HE.out.mono ?_); rintro e w5 ⟨v5, rfl, o5, hd5, q5⟩; clear HE))
        have s1 := b1.size
        have s2 := b2.size
        have s3 := o3.size
        have c3 : Below w.heap.size w w3 := (belowThen b1 b2).trans (o3.to_below (by omega) (fun b e => by omega))
        have c5 : Below w.heap.size w w5 := c3.trans (q5.to_below (by omega) (fun b e => by omega))
        go_ret3
        exact ⟨seqN zs, v5, loadL zs, true, rfl, .inl ⟨HG.out, rfl, rfl, rfl⟩, o5.lower (by omega), c5⟩
      · have HG := Lib.hid (show ¬ Good zs from fun g => hq g.2.2)
        have hq2 : seqN zs < 1 ∨ 2147483647 < seqN zs := by
          by_cases k : seqN zs < 1
          · exact .inl k
          · by_cases k2 : 2147483647 < seqN zs
            · exact .inr k2
            · exact absurd ⟨by omega, by omega⟩ hq
        clear hq hl
        have HC : Calls Try.prog 51 #[.slice A 320 c] w (Gets zs w) := by
          rcases hq2 with d1 | d2
          · go_enter Try.func51, Try.ntmps51
            go_wp2_with (first
              | (go_at_call 63; (with_reducible refine HD.out.mono ?_); rintro e w1 ⟨v1, rs, b, rfl, hrd, o1, b1⟩; clear HD; obtain ⟨h5, h6⟩ := hrd.some HW.out; subst h6; rw [he] at h5; rw [h5, HEL.out] at o1; obtain ⟨A1, c1, rfl, hc1, r1, _⟩ := o1.form; clear o1 h5 hrd; have HR := Lib.hid (rnewReader_any A1 160 c1 _ w1 r1 (by omega) hc1 w1.heap.size (Nat.le_refl _) (row_lies r1)); clear r1)
              | (go_at_call 64; (with_reducible refine HR.out.mono ?_); rintro e w2 ⟨rfl, hd2, b2⟩; clear HR; have HN := Lib.hid (rnum_any 4 w2 hd2); rw [got_seq HEB.out HEL.out, aft_seq HEL.out] at HN; replace HN : Hid (Calls Try.prog 65 #[.pointer (some ⟨w1.heap.size, 0, none⟩), .int .i64 4] w2 (GivesN (seqN zs) (RrTo w1.heap.size w1.heap.size ⟨(evL zs 160).drop 4, false⟩ w2))) := HN)
              | (go_at_call 65; (with_reducible refine HN.out.mono ?_); rintro e w3 ⟨rfl, hd3, o3⟩; clear HN hd2 hd3))
            have s1 := b1.size
            have s2 := b2.size
            have c3 : Below w.heap.size w w3 := (belowThen b1 b2).trans (o3.to_below (by omega) (fun b e => by omega))
            go_ret3
            exact gets_none HG.out c3
          · have d1 : ¬ seqN zs < 1 := by omega
            go_enter Try.func51, Try.ntmps51
            go_wp2_with (first
              | (go_at_call 63; (with_reducible refine HD.out.mono ?_); rintro e w1 ⟨v1, rs, b, rfl, hrd, o1, b1⟩; clear HD; obtain ⟨h5, h6⟩ := hrd.some HW.out; subst h6; rw [he] at h5; rw [h5, HEL.out] at o1; obtain ⟨A1, c1, rfl, hc1, r1, _⟩ := o1.form; clear o1 h5 hrd; have HR := Lib.hid (rnewReader_any A1 160 c1 _ w1 r1 (by omega) hc1 w1.heap.size (Nat.le_refl _) (row_lies r1)); clear r1)
              | (go_at_call 64; (with_reducible refine HR.out.mono ?_); rintro e w2 ⟨rfl, hd2, b2⟩; clear HR; have HN := Lib.hid (rnum_any 4 w2 hd2); rw [got_seq HEB.out HEL.out, aft_seq HEL.out] at HN; replace HN : Hid (Calls Try.prog 65 #[.pointer (some ⟨w1.heap.size, 0, none⟩), .int .i64 4] w2 (GivesN (seqN zs) (RrTo w1.heap.size w1.heap.size ⟨(evL zs 160).drop 4, false⟩ w2))) := HN)
              | (go_at_call 65; (with_reducible refine HN.out.mono ?_); rintro e w3 ⟨rfl, hd3, o3⟩; clear HN hd2 hd3))
            have s1 := b1.size
            have s2 := b2.size
            have c3 : Below w.heap.size w w3 := (belowThen b1 b2).trans (o3.to_below (by omega) (fun b e => by omega))
            go_ret3
            exact gets_none HG.out c3
        exact HC
    · have HG := Lib.hid (show ¬ Good zs from fun g => hm (by rw [← hr.1]; exact g.1))
      have hne : ¬ (m : Int) = 320 := by omega
      clear hr hm
      go_enter Try.func51, Try.ntmps51
      go_wp2_with (go_at_call 63; (with_reducible refine HD.out.mono ?_); rintro e w1 ⟨v1, rs, b, rfl, hrd, o1, b1⟩; clear HD; obtain ⟨h5, h6⟩ := hrd.some HW.out; subst h6; clear o1 h5 hrd)
      go_ret3
      exact gets_none HG.out b1
  · have HG := Lib.hid (show ¬ Good zs from fun g => hw g.2.1)
    have HW := Lib.hid hw
    clear hw hr
    go_enter Try.func51, Try.ntmps51
    go_wp2_with (go_at_call 63; (with_reducible refine HD.out.mono ?_); rintro e w1 ⟨v1, rs, b, rfl, hrd, o1, b1⟩; clear HD; obtain ⟨h5, h6⟩ := hrd.none HW.out; subst h6; clear o1 h5 hrd)
    go_ret3
    exact gets_none HG.out b1
end Go.Proofs.Ytclephjnokbaoaa
