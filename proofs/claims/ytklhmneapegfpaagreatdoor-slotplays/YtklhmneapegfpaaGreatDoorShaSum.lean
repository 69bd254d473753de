/-
  What a stream's Sum answers: the hash, and the stream stays as it was; conditions: the stream has begun, the count stays small.
-/
import Derived.Test.YtklhmneapegfpaaGreatDoorShaWrite
import Derived.Deep.RegionLaw
namespace Go.Proofs.YtklhmneapegfpaaGreatDoor.Sha
open Go.RowKit
set_option linter.unusedVariables false
set_option linter.unusedSimpArgs false

def zero24 : Array Value := (nums (List.replicate 32 0)).toArray
theorem zero24_run : ∀ w : World, (zeroValue 47).run Tryz.prog w = .ok (.agg zero24) w := (zero_of_info (P := Tryz.prog) (t := 47) (n := 32) (by kernel_rfl)).1
theorem size24 {zs : List Int} (h : zs.length = 32) : (Tryz.prog.info? 47).map (·.size) = some (nums zs).toArray.size := by
  rw [List.size_toArray, nums_len, h]; kernel_rfl
theorem nums_all (zs : List Int) : (nums zs).toArray.all (·.oneCell') = true := by
  rw [Array.all_eq_true_iff_forall_mem]
  intro v hv
  exact nums_one zs v (by simpa using hv)
theorem zero24_size : zero24.size = 32 := by simp [zero24, nums]
theorem below_only {B e : Nat} {w0 w w' : World} (h : Below B w0 w) (ho : w.grownBy w' (some e)) (he : B ≤ e) (hB : B ≤ w.heap.size) : Below B w0 w' := h.grown ho hB (fun k hk => by injection hk; omega)

/-- A whole value stored into a block that is known whole; the world behind it under a name. -/
theorem wpList_row {w : World} {ops : Array Oper} {rest : List Oper} {o : Oper} {a : Act} {Q : Exit → Act → World → Prop} (hgd : o.guard = none) (ty : TypeId) (x y : Operand) (ho : o.op = .store ty x y)
    (g : Nat) (cells : Array Value) (hx : a.eval x = .pointer (some ⟨g, 0, none⟩)) (hy : a.eval y = .agg cells) (t : TypeId) (old : Array Value) (hg : Has w g t old) (hi : (Tryz.prog.info? ty).map (·.size) = some cells.size)
    (hold : old.size = cells.size) (h1 : cells.all (·.oneCell') = true)
    (h : ∀ w', Has w' g t cells → w.grownBy w' (some g) → wpList Tryz.prog ops Q rest (a.put o.dst undef) w') : wpList Tryz.prog ops Q (o :: rest) a w :=
  wpList_store_row hgd ty x y ho g cells hx hy t old hg hi hold h1 (h _ (setRow_heap _ _ _ _ _ _ hg) (only_row (only_refl w (some g)) cells))

set_option maxRecDepth 100000 in
set_option maxHeartbeats 2000000 in
theorem sum_any (b n : Nat) (H : St) (bf : List Int) (w : World) (hH : H.Ok) (hl : bf.length = 64) (hbb : Byt bf) (hs : Has w b 96 (smCells H n bf)) (ht : Tabs w) (hn : n < 1099511627776) :
    Calls Tryz.prog 67 #[.pointer (some ⟨b, 0, none⟩)] w fun e w' => e = .returned (.agg (nums (sumI H n (bf.take (n % 64)))).toArray) ∧ Below w.heap.size w w' := by
  have hz := zero49_run
  have hz2 := zero24_run
  have hs2 := hs.more (.cells zero24 47)
  have HL := Lib.hid hl
  clear hl
  go_enter Tryz.func67, Tryz.ntmps67
  go_wp2_with fail
  refine (now_any b n H bf _ HL.out hs2).mono ?_
  rintro e w1 ⟨rfl, H1⟩
  have hout : Has w1 w.heap.size 47 zero24 := (has_new w 47 zero24).kept H1
  have hb1 : Below w.heap.size w w1 := ((Below.refl _ _).alloc (Nat.le_refl _) _).trans (H1.mono (by simp))
  have hne := has_new w1 96 zero49
  have hoa := hout.more (.cells zero49 96)
  have hba := hb1.alloc hb1.size (.cells zero49 96)
  have htp := ht.kept hb1
  have htq := htp.kept ((Below.refl _ w1).alloc (Nat.le_refl _) (.cells zero49 96))
  have hlt : w.heap.size < w1.heap.size := by have := H1.size; simp at this; omega
  have hg1 : w.heap.size ≤ w1.heap.size := hb1.size
  have h1e : 2 < w1.heap.size := by have := ht.1; omega
  go_wp2_with ((refine wpList_row rfl 96 _ _ rfl w1.heap.size (smCells H n bf) rfl rfl 96 _ hne (size49 HL.out) (old49 HL.out) (sm_all _ _ _) ?_; intro w2 hs3 hon3; have c9 : w2.cell? ⟨w1.heap.size, 9, none⟩ = some (.int .u64 (n : Int)) := (hs3.at 9).trans (sm_count H n bf)))
  have hb2 := below_only hba hon3 (show w.heap.size ≤ w1.heap.size by omega) hba.size
  have ho2 : Has w2 w.heap.size 47 zero24 := (hon3.block _ hoa.size (by intro e; injection e; omega)).trans hoa
  have ht2 := htq.only hon3 h1e
  have hsz2 := hs3.size
  clear hoa hba htp htq hne hs2 H1 hout hon3 hs
  refine (pad_any n _ (by omega)).mono ?_
  rintro e w3 ⟨v3, rfl, ho3, hb3⟩
  obtain ⟨A3, c3, rfl, hc3, hr3, hk3⟩ := ho3.form
  have hzl := zeros_lt n
  go_wp2_with fail
  refine (write_any w1.heap.size n H bf A3 _ c3 (padI n) _ hH HL.out hbb (hs3.kept hb3) hr3 hc3 (fun _ x hx => by have := hk3 x hx; omega) (ht2.kept hb3) h1e (by omega)).mono ?_
  rintro e w4 ⟨rfl, bf4, hl4, hbb4, htk4, hs4, hon4⟩
  have HL4 := Lib.hid hl4
  have HT4 := Lib.hid htk4
  clear hl4 htk4
  have hb4 := below_only (hb2.trans (hb3.mono hb2.size)) hon4 (show w.heap.size ≤ w1.heap.size by omega) (hb2.trans (hb3.mono hb2.size)).size
  have ho4 : Has w4 w.heap.size 47 zero24 := (hon4.block _ (ho2.kept hb3).size (by intro e; injection e; omega)).trans (ho2.kept hb3)
  have ht4 := (ht2.kept hb3).only hon4 h1e
  have hpl := Lib.hid (len_pad n)
  have hX1 := run_ok (s := H) (xs := bf.take (n % 64) ++ padI n) hH (byt_app (byt_take hbb _) (byt_pad n))
  clear hs3 ho3 hb3 hr3 hk3 hon4 ho2 ht2 c9
  go_wp2_with fail
  refine (count_any (8 * (n : Int)) _ (by unfold U64; omega)).mono ?_
  rintro e w5 ⟨v5, rfl, ho5, hb5⟩
  obtain ⟨A5, c5, rfl, hc5, hr5, hk5⟩ := ho5.form
  have hsz4 := hs4.size
  go_wp2_with fail
  refine (write_any w1.heap.size _ _ bf4 A5 _ c5 (bytes8 (8 * (n : Int))) _ hX1 HL4.out hbb4 (hs4.kept hb5) hr5 hc5 (fun _ x hx => by have := hk5 x hx; omega) (ht4.kept hb5) h1e (by have := hpl.out; omega)).mono ?_
  rintro e w6 ⟨rfl, bf6, hl6, hbb6, htk6, hs6, hon6⟩
  have hb6 := below_only (hb4.trans (hb5.mono hb4.size)) hon6 (show w.heap.size ≤ w1.heap.size by omega) (hb4.trans (hb5.mono hb4.size)).size
  have ho6 : Has w6 w.heap.size 47 zero24 := (hon6.block _ (ho4.kept hb5).size (by intro e; injection e; omega)).trans (ho4.kept hb5)
  have hfin : (run (run H (bf.take (n % 64) ++ padI n)).1 (bf4.take ((n + (padI n).length) % 64) ++ bytes8 (8 * (n : Int)))).1 = (run H (bf.take (n % 64) ++ lastI n)).1 := by
    rw [HT4.out, ← run_app, lastI, List.append_assoc, show ((8 * n % 18446744073709551616 : Nat) : Int) = 8 * (n : Int) by omega]
  rw [hfin] at hs6
  have hX := run_ok (s := H) (xs := bf.take (n % 64) ++ lastI n) hH (byt_app (byt_take hbb _) (byt_last n))
  have hsum := Lib.hid (show bytes32 (run H (bf.take (n % 64) ++ lastI n)).1 = sumI H n (bf.take (n % 64)) from rfl)
  have hsl := Lib.hid (show (sumI H n (bf.take (n % 64))).length = 32 from rfl)
  clear hs4 ho5 hb5 hr5 hk5 hon6 ho4 ht4 htk6 hl6 hfin hX1 hpl
  generalize (run H (bf.take (n % 64) ++ lastI n)).1 = X at *
  obtain ⟨dig, hdig⟩ : ∃ d, sumI H n (bf.take (n % 64)) = d := ⟨_, rfl⟩
  rw [hdig] at hsum hsl
  have HD := Lib.hid hdig
  clear hdig
  generalize n + (padI n).length + (bytes8 (8 * (n : Int))).length = N6 at *
  obtain ⟨g1, g2, g3, g4, g5, g6, g7, g8, _, _, _, _, _, _, _, _⟩ := has_eight hs6
  have hsz6 := hs6.size
  have hg6 := has_new w6 47 zero24
  have ho7 := ho6.more (.cells zero24 47)
  have hb7 := hb6.alloc hb6.size (.cells zero24 47)
  have hwl := words_any X (w6.alloc (.cells zero24 47)).drew hX
  unfold stCells at hwl
  go_wp2_with fail
  go_region_law (first
    | (refine step_cp rfl (.tmp 18) (.tmp 21) rfl 32 w6.heap.size 0 32 32 (by simp [Act.eval, Act.put]) A8 32 c8 (by simp [Act.eval, Act.put]) (bytes32 X) hr8 rfl zero24 47 (hg6.kept (w := (w6.alloc (.cells zero24 47)).drew) hb8) (by rw [zero24_size]; omega) ?_)
    | (go_simp; go_at_call 86; (refine hwl.mono ?_); rintro e w8 ⟨v8, rfl, ho8, hb8⟩; obtain ⟨A8, c8, rfl, hc8, hr8, hk8⟩ := ho8.form))
  have hg8 : Has w8 w6.heap.size 47 zero24 := hg6.kept (w := (w6.alloc (.cells zero24 47)).drew) hb8
  have ho8' : Has w8 w.heap.size 47 zero24 := ho7.kept (w := (w6.alloc (.cells zero24 47)).drew) hb8
  have hb8' : Below w.heap.size w w8 := hb7.drew.trans (hb8.mono hb7.size)
  rw [show (nums (List.take 32 (bytes32 X)) ++ List.drop 32 zero24.toList).toArray = (nums dig).toArray by
    rw [← hsum.out, List.take_of_length_le (by rw [len32]; omega), List.drop_of_length_le (by rw [Array.length_toList, zero24_size]; omega), List.append_nil]]
  have hg9 := setRow_heap _ _ _ (nums dig).toArray _ _ hg8
  have ho9 : Has (w8.setRow w6.heap.size (nums dig).toArray) w.heap.size 47 zero24 := (setRow_other w8 _ _ _ (by omega)).trans ho8'
  have hb9 : Below w.heap.size w (w8.setRow w6.heap.size (nums dig).toArray) := below_setRow hb8' (by omega) _
  generalize w8.setRow w6.heap.size (nums dig).toArray = w9 at *
  go_wp2_with (first
    | (refine wpList_load_row rfl 47 _ rfl w6.heap.size rfl 47 _ (0, 0) _ hg9 Tryz.underlying47 rfl (size24 hsl.out) ?_)
    | (refine wpList_store_row rfl 47 _ _ rfl w.heap.size (nums dig).toArray rfl rfl 47 _ ho9 (size24 hsl.out) (by rw [zero24_size, List.size_toArray, nums_len, hsl.out]) (nums_all _) ?_))
  exact bodyPost_ret (results_cell_row rfl _ _ w.heap.size 47 (nums dig).toArray (0, 0) _ rfl (setRow_heap _ _ _ _ _ _ ho9) Tryz.underlying47 rfl (size24 hsl.out)) rfl ⟨by rw [HD.out], below_setRow hb9 (Nat.le_refl _) _⟩

set_option maxRecDepth 100000 in
set_option maxHeartbeats 1000000 in
theorem shaSum_any (a : Option Addr) (m cap : Nat) (zs : List Int) (w : World) (hr : Row w a m zs) (hcap : m ≤ cap) (ht : Tabs w) (hm : m < 1099511627776) :
    Calls Tryz.prog 42 #[.slice a m cap] w fun e w' => e = .returned (.agg (nums (shaI zs)).toArray) ∧ Below w.heap.size w w' := by
  have hz := zero49_run
  have hz2 := zero24_run
  have hba : Below w.heap.size w (w.alloc (.cells zero24 47)) := (Below.refl _ _).alloc (Nat.le_refl _) _
  go_enter Tryz.func42, Tryz.ntmps42
  go_wp2_with fail
  refine (fresh_any _ (ht.kept hba)).mono ?_
  rintro e w1 ⟨rfl, H1⟩
  have hb1 := hba.trans (H1.mono hba.size)
  have hout : Has w1 w.heap.size 47 zero24 := (has_new w 47 zero24).kept H1
  have hoa := hout.more (.cells zero49 96)
  have hne := has_new w1 96 zero49
  have hbc := hb1.alloc hb1.size (.cells zero49 96)
  have hlt : w.heap.size < w1.heap.size := by have := H1.size; simp at this; omega
  have h1e : 2 < w1.heap.size := by have := ht.1; omega
  go_wp2_with ((refine wpList_row rfl 96 _ _ rfl w1.heap.size (smCells st0 0 noBytes) rfl rfl 96 _ hne (size49 no_len) (old49 no_len) (sm_all _ _ _) ?_; intro w2 hs2 hon2))
  have hb2 := below_only hbc hon2 (show w.heap.size ≤ w1.heap.size by omega) hbc.size
  have ho2 : Has w2 w.heap.size 47 zero24 := (hon2.block _ hoa.size (by intro e; injection e; omega)).trans hoa
  have ht2 := ht.kept hb2
  refine (write_any w1.heap.size 0 st0 noBytes a m cap zs _ st0_ok no_len no_byt hs2 (row_below hb2 hr) hcap (row_off hr (by omega)) ht2 h1e (by omega)).mono ?_
  rintro e w3 ⟨rfl, bf3, hl3, hbb3, htk3, hs3, hon3⟩
  have hb3 := below_only hb2 hon3 (show w.heap.size ≤ w1.heap.size by omega) hb2.size
  have ho3 : Has w3 w.heap.size 47 zero24 := (hon3.block _ ho2.size (by intro e; injection e; omega)).trans ho2
  have hzm := hr.1
  have e0 : noBytes.take (0 % 64) ++ zs = zs := by simp
  rw [e0, Nat.zero_add] at hs3 htk3
  have HT := Lib.hid htk3
  have HL := Lib.hid hl3
  have HZ := Lib.hid hzm
  clear htk3 hl3 e0 hzm
  go_wp2_with fail
  refine (sum_any w1.heap.size zs.length _ bf3 _ (run_ok st0_ok hr.2.1) HL.out hbb3 hs3 (ht.kept hb3) (by rw [HZ.out]; exact hm)).mono ?_
  rintro e w4 ⟨rfl, H4⟩
  rw [HT.out]
  have hb4 := hb3.trans (H4.mono hb3.size)
  have ho4 := ho3.kept H4
  have hsl := Lib.hid (show (shaI zs).length = 32 from rfl)
  have hsh := Lib.hid (show sumI (run st0 zs).1 zs.length (run st0 zs).2 = shaI zs from rfl)
  rw [hsh.out]
  go_wp2_with (refine wpList_store_row rfl 47 _ _ rfl w.heap.size (nums (shaI zs)).toArray rfl rfl 47 _ ho4 (size24 hsl.out) (by rw [zero24_size, List.size_toArray, nums_len, hsl.out]) (nums_all _) ?_)
  exact bodyPost_ret (results_cell_row rfl _ _ w.heap.size 47 (nums (shaI zs)).toArray (0, 0) _ rfl (setRow_heap _ _ _ _ _ _ ho4) Tryz.underlying47 rfl (size24 hsl.out)) rfl ⟨rfl, below_setRow hb4 (Nat.le_refl _) _⟩
end Go.Proofs.YtklhmneapegfpaaGreatDoor.Sha
