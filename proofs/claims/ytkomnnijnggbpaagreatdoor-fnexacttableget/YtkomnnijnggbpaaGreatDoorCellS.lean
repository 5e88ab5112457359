/- The model's cell at a place of a block's entries. -/
import Derived.Test.YtkomnnijnggbpaaGreatDoorZ0
import Derived.Test.YtkomnnijnggbpaaGreatDoorZ1
import Derived.Test.YtkomnnijnggbpaaGreatDoorReadKeyS
namespace Go.Proofs.YtkomnnijnggbpaaGreatDoor
open Go.RowKit
set_option linter.unusedVariables false

theorem res_cell3 {P : Program} {fn : Func} {p q r : Tmp} {ty : TypeId} {v u : Value} (h : fn.results = #[.cell p ty, .tmp q, .tmp r]) (tmps : Array Value) (w : World) (g : Nat) (t : TypeId) (cs : Array Value) (fr : Nat × Nat) (d : TypeDesc)
   (hp : tmps.getD p undef = .pointer (some ⟨g, 0, none⟩)) (hq : tmps.getD q undef = v) (hr : tmps.getD r undef = u) (hg : w.heap[g]? = some (.cells cs t fr))
   (hu : P.underlying ty = some d) (hd : (match d with | .struct _ | .array _ _ => true | _ => false) = true) (hi : (P.info? ty).map (·.size) = some cs.size) :
   (results fn tmps).run P w = .ok (.tuple #[.agg cs, v, u]) w := by
 have hp' : tmps[p]?.getD undef = .pointer (some ⟨g, 0, none⟩) := by simpa using hp
 have hq' : tmps[q]?.getD undef = v := by simpa using hq
 have hr' : tmps[r]?.getD undef = u := by simpa using hr
 simp [results, h, hp', hq', hr', asAddr, run_loadVar_row w g t ty cs fr d hg hu hd hi]
def CelRead (w : World) (l : List UInt8) (a : Nat) (last : List UInt8) (e : Ending) (w' : World) : Prop :=
 ∃ (R C : ByteArray) (t : Int) (G : Bool) (V K : ByteArray) (nx : Int), e = .returned (.tuple #[.agg #[.string R, .string C, .int .i64 t, .bool G, .string V], .string K, .int .i64 nx]) ∧ Below w.heap.size w w' ∧
   ((nx = -1 ∧ ∀ x k a', ¬ Step l a last x k a') ∨ (∃ a' : Nat, nx = a' ∧ Step l a last ⟨R, C, t, G, V⟩ K.data.toList a'))
theorem var_out {l : List UInt8} {a : Int} (h : a < 0) : getVar1 l a = 0 ∧ getVar2 l a = -1 := getVar1_none (getVar_out (.inl h))
theorem vars_three (l : List UInt8) (a : Nat) :
   (getVar2 l (getVar2 l (getVar2 l a)) = -1 ∧ rdRaw l a = none) ∨
   (∃ sh m z b : Nat, getVar1 l a = sh ∧ getVar1 l (getVar2 l a) = m ∧ getVar1 l (getVar2 l (getVar2 l a)) = z ∧ getVar2 l (getVar2 l (getVar2 l a)) = b ∧ a ≤ b ∧ b ≤ l.length ∧ m ≤ 4611686018427387903 ∧ z ≤ 4611686018427387903 ∧ sh ≤ 4611686018427387903 ∧ rdRaw l a = if b + m + z / 2 ≤ l.length then some (sh, m, z, b) else none) := by
 cases h1 : getVarAt l (a : Int) with
 | none =>
   left
   rw [(getVar1_none h1).2, (var_out (l := l) (a := -1) (by omega)).2, (var_out (l := l) (a := -1) (by omega)).2]
   exact ⟨rfl, rd_no1 h1⟩
 | some g1 =>
   obtain ⟨e1, e2⟩ := getVar1_some h1
   have e2' : getVar2 l (a : Int) = ((a + g1.length : Nat) : Int) := by rw [e2]; omega
   cases h2 : getVarAt l ((a + g1.length : Nat) : Int) with
   | none =>
     left
     rw [e2', (getVar1_none h2).2, (var_out (l := l) (a := -1) (by omega)).2]
     exact ⟨rfl, rd_no2 h1 h2⟩
   | some g2 =>
     obtain ⟨e3, e4⟩ := getVar1_some h2
     have e4' : getVar2 l ((a + g1.length : Nat) : Int) = ((a + g1.length + g2.length : Nat) : Int) := by rw [e4]; omega
     cases h3 : getVarAt l ((a + g1.length + g2.length : Nat) : Int) with
     | none =>
       left
       rw [e2', e4', (getVar1_none h3).2]
       exact ⟨rfl, rd_no3 h1 h2 h3⟩
     | some g3 =>
       right
       obtain ⟨e5, e6⟩ := getVar1_some h3
       refine ⟨varVal g1, varVal g2, varVal g3, a + g1.length + g2.length + g3.length, e1, by rw [e2']; exact e3, by rw [e2', e4']; exact e5, by rw [e2', e4', e6]; omega, by omega, (get_pos h3).2.1, (get_pos h2).2.2, (get_pos h3).2.2, (get_pos h1).2.2, rd_is h1 h2 h3⟩

set_option maxRecDepth 100000 in
set_option maxHeartbeats 2000000 in
theorem specl05Cell (s : ByteArray) (a : Nat) (last : ByteArray) (hs : s.size ≤ 1048576) (hl : last.size ≤ a) (w : World) :
   Calls Tryz.prog 142 #[.string s, .int .i64 a, .string last] w (CelRead w s.data.toList a last.data.toList) := by
 have HLL := Lib.hid (show s.data.toList.length = s.size by simp)
 have HL2 := Lib.hid (show last.data.toList.length = last.size by simp)
 have HS := Lib.hid (show s.size ≤ maxLen by unfold maxLen; omega)
 have O0 := Lib.hid (alloc_at w (.cells #[.string ⟨#[]⟩, .string ⟨#[]⟩, .int .i64 0, .bool false, .string ⟨#[]⟩] 41))
 have B0 := Lib.hid (one_below w (.cells #[.string ⟨#[]⟩, .string ⟨#[]⟩, .int .i64 0, .bool false, .string ⟨#[]⟩] 41))
 have HV := Lib.hid (vars_three s.data.toList a)
 obtain ⟨v1, hv1⟩ : ∃ v, getVar1 s.data.toList a = v := ⟨_, rfl⟩
 obtain ⟨p1, hp1⟩ : ∃ v, getVar2 s.data.toList a = v := ⟨_, rfl⟩
 obtain ⟨v2, hv2⟩ : ∃ v, getVar1 s.data.toList p1 = v := ⟨_, rfl⟩
 obtain ⟨p2, hp2⟩ : ∃ v, getVar2 s.data.toList p1 = v := ⟨_, rfl⟩
 obtain ⟨v3, hv3⟩ : ∃ v, getVar1 s.data.toList p2 = v := ⟨_, rfl⟩
 obtain ⟨p3, hp3⟩ : ∃ v, getVar2 s.data.toList p2 = v := ⟨_, rfl⟩
 rw [hp1, hp2, hp3, hv1, hv2, hv3] at HV
 have H1 := Lib.hid (And.intro hv1 hp1)
 have H2 := Lib.hid (And.intro hv2 hp2)
 have H3 := Lib.hid (And.intro hv3 hp3)
 clear hv1 hp1 hv2 hp2 hv3 hp3
 go_enter Tryz.func142, Tryz.ntmps142
 go_wp2_with fail
 refine (specGetVar s a _ HS.out).mono ?_
 rintro e w1 ⟨rfl, hb1⟩
 rw [H1.out.1, H1.out.2]
 have B1 := Lib.hid hb1
 clear hb1
 go_wp2_with fail
 refine (specGetVar s p1 _ HS.out).mono ?_
 rintro e w2 ⟨rfl, hb2⟩
 rw [H2.out.1, H2.out.2]
 have B2 := Lib.hid (B1.out.trans (hb2.mono B1.out.size))
 clear hb2
 go_wp2_with fail
 refine (specGetVar s p2 _ HS.out).mono ?_
 rintro e w3 ⟨rfl, hb3⟩
 rw [H3.out.1, H3.out.2]
 have B3 := Lib.hid (B2.out.trans (hb3.mono B2.out.size))
 clear hb3 H1 H2 H3 B1 B2
 have o3 := (B3.out.block _ (Array.getElem?_eq_some_iff.1 O0.out).1).trans O0.out
 have O3 := Lib.hid o3
 have BB := Lib.hid (B0.out.trans (B3.out.mono B0.out.size))
 obtain ⟨x5, z0, z1, z2, z3, z4⟩ := blk5 o3
 unfold One5 at x5
 obtain ⟨b0, b1, b2, b3, b4⟩ := x5
 clear o3
 rcases HV.out with ⟨rfl, hno⟩ | ⟨sh, m, z, b, rfl, rfl, rfl, rfl, hab, hb, hm, hz, hsh, hrd⟩
 · have HN := Lib.hid (step_no (key := last.data.toList) hno)
   clear hno HV
   go_wp2
   refine bodyPost_ret (v := .tuple #[.agg #[.string ⟨#[]⟩, .string ⟨#[]⟩, .int .i64 0, .bool false, .string ⟨#[]⟩], .string ⟨#[]⟩, .int .i64 (-1)]) (res_cell3 Tryz.results142 _ _ w.heap.size _ _ _ _ rfl rfl rfl (set5 O3.out _ _ _ _ _) Tryz.underlying41 rfl (by rw [sizeCel]; rfl)) rfl ?_
   exact ⟨_, _, _, _, _, _, _, rfl, set5_below BB.out (Nat.le_refl _) _ _ _ _ _, .inl ⟨rfl, HN.out⟩⟩
 · rw [HLL.out] at hb hrd
   have HRD := Lib.hid hrd
   clear hrd HV
   have g0 : ¬ (b : Int) < 0 := by omega
   obtain ⟨q, hq⟩ : ∃ q, z / 2 = q := ⟨_, rfl⟩
   have hq1 : (z : Int) / 2 = (q : Int) := by omega
   have hq2 : IntKind.i64.wrap (q : Int) = (q : Int) := IntWalk.i64_in _ (by omega)
   have hq3 : q ≤ 4611686018427387903 := by omega
   rw [hq] at HRD
   have HQ := Lib.hid hq
   clear hq
   by_cases c1 : sh ≤ last.size
   · have e1 : ¬ (last.size : Int) < (sh : Int) := by omega
     by_cases c2 : b + m ≤ s.size
     · have e2 : ¬ (s.size : Int) - (b : Int) < (m : Int) := by omega
       by_cases c3 : b + m + q ≤ s.size
       · have e3 : ¬ (s.size : Int) - (b : Int) - (m : Int) < (q : Int) := by omega
         have HR2 := Lib.hid (show rdRaw s.data.toList a = some (sh, m, z, b) by rw [HRD.out, if_pos c3])
         obtain ⟨G, hG⟩ : ∃ G, decide (z % 2 = 1) = G := ⟨_, rfl⟩
         have hG2 : ((z : Int) % 2 == 1) = G := by rw [← hG, Bool.eq_iff_iff]; simp; omega
         have HGG := Lib.hid hG
         clear hG HRD
         have i1 : (sh : Int) ≤ (last.size : Int) := by omega
         have i2 : (b : Int) + (m : Int) ≤ (s.size : Int) := by omega
         have i3 : (b : Int) + (m : Int) + (q : Int) ≤ (s.size : Int) := by omega
         obtain ⟨X, hX⟩ : ∃ X, last.extract 0 sh = X := ⟨_, rfl⟩
         obtain ⟨Y, hY⟩ : ∃ Y, s.extract b (b + m) = Y := ⟨_, rfl⟩
         have hXs : X.size = sh := by rw [← hX, ByteArray.size_extract]; omega
         have hYs : Y.size = m := by rw [← hY, ByteArray.size_extract]; omega
         have HXL := Lib.hid (show X.data.toList = last.data.toList.take sh by rw [← hX]; simp only [ByteArray.data_extract, Array.toList_extract, List.extract_eq_take_drop, List.drop_zero, Nat.sub_zero])
         have HYL := Lib.hid (show Y.data.toList = (s.data.toList.drop b).take m by rw [← hY]; simp only [ByteArray.data_extract, Array.toList_extract, List.extract_eq_take_drop]; congr 1; omega)
         have hcat : ¬ 9223372036854775807 < X.size + Y.size := by omega
         obtain ⟨V, hV⟩ : ∃ V, s.extract (b + m) (b + m + q) = V := ⟨_, rfl⟩
         have HVL := Lib.hid (show V.data.toList = (s.data.toList.drop (b + m)).take q by rw [← hV]; simp only [ByteArray.data_extract, Array.toList_extract, List.extract_eq_take_drop]; congr 1; omega)
         go_wp2
         go_quiet (fail)
         go_wp2_with fail
         obtain ⟨Kk, hKk⟩ : ∃ K, X ++ Y = K := ⟨_, rfl⟩
         rw [hKk]
         have hKs : Kk.size ≤ 1048576 := by rw [← hKk, ByteArray.size_append]; omega
         have HKL := Lib.hid (show Kk.data.toList = last.data.toList.take sh ++ (s.data.toList.drop b).take m by rw [← hKk, ByteArray.data_append, Array.toList_append, HXL.out, HYL.out])
         clear hKk hcat hX hY b0 b1 b2 b3 b4 z0 z1 z2 z3 z4
         refine (specReadKey Kk hKs _).mono ?_
         rintro e w4 ⟨R, C, t, hri, rfl, hb4⟩
         have o4 := (hb4.block w.heap.size (Array.getElem?_eq_some_iff.1 O3.out).1).trans O3.out
         have O4 := Lib.hid o4
         have B4 := Lib.hid (BB.out.trans ((below_draws (B := w.heap.size) (w := w3) nq).trans (hb4.mono BB.out.size)))
         have HRI := Lib.hid hri
         obtain ⟨x5, z0, z1, z2, z3, z4⟩ := blk5 o4
         unfold One5 at x5
         obtain ⟨b0, b1, b2, b3, b4⟩ := x5
         clear o4 hri hb4
         go_wp2
         refine bodyPost_ret (v := .tuple #[.agg #[.string R, .string C, .int .i64 t, .bool G, .string V], .string Kk, .int .i64 ((b : Int) + (m : Int) + (q : Int))]) (res_cell3 Tryz.results142 _ _ w.heap.size _ _ _ _ rfl rfl rfl (set5 O4.out _ _ _ _ _) Tryz.underlying41 rfl (by rw [sizeCel]; rfl)) rfl ?_
         refine ⟨_, _, _, _, _, _, _, rfl, set5_below B4.out (Nat.le_refl _) _ _ _ _ _, .inr ⟨b + m + q, by omega, sh, m, z, b, HR2.out, by rw [HL2.out]; exact c1, HKL.out, HRI.out, HGG.out.symm, ?_, by rw [HQ.out]⟩⟩
         rw [HQ.out]
         exact HVL.out
       · have e3 : (s.size : Int) - (b : Int) - (m : Int) < (q : Int) := by omega
         have HN := Lib.hid (step_no (key := last.data.toList) (show rdRaw s.data.toList a = none by rw [HRD.out, if_neg c3]))
         go_wp2
         refine bodyPost_ret (v := .tuple #[.agg #[.string ⟨#[]⟩, .string ⟨#[]⟩, .int .i64 0, .bool false, .string ⟨#[]⟩], .string ⟨#[]⟩, .int .i64 (-1)]) (res_cell3 Tryz.results142 _ _ w.heap.size _ _ _ _ rfl rfl rfl (set5 O3.out _ _ _ _ _) Tryz.underlying41 rfl (by rw [sizeCel]; rfl)) rfl ?_
         exact ⟨_, _, _, _, _, _, _, rfl, set5_below BB.out (Nat.le_refl _) _ _ _ _ _, .inl ⟨rfl, HN.out⟩⟩
     · have e2 : (s.size : Int) - (b : Int) < (m : Int) := by omega
       have HN := Lib.hid (step_no (key := last.data.toList) (show rdRaw s.data.toList a = none by rw [HRD.out, if_neg (by omega)]))
       go_wp2
       refine bodyPost_ret (v := .tuple #[.agg #[.string ⟨#[]⟩, .string ⟨#[]⟩, .int .i64 0, .bool false, .string ⟨#[]⟩], .string ⟨#[]⟩, .int .i64 (-1)]) (res_cell3 Tryz.results142 _ _ w.heap.size _ _ _ _ rfl rfl rfl (set5 O3.out _ _ _ _ _) Tryz.underlying41 rfl (by rw [sizeCel]; rfl)) rfl ?_
       exact ⟨_, _, _, _, _, _, _, rfl, set5_below BB.out (Nat.le_refl _) _ _ _ _ _, .inl ⟨rfl, HN.out⟩⟩
   · have e1 : (last.size : Int) < (sh : Int) := by omega
     have HN := Lib.hid (show ∀ x k a', ¬ Step s.data.toList a last.data.toList x k a' by
       by_cases c3 : b + m + q ≤ s.size
       · exact step_far (show rdRaw s.data.toList a = some (sh, m, z, b) by rw [HRD.out, if_pos c3]) (by rw [HL2.out]; omega)
       · exact step_no (by rw [HRD.out, if_neg c3]))
     go_wp2
     refine bodyPost_ret (v := .tuple #[.agg #[.string ⟨#[]⟩, .string ⟨#[]⟩, .int .i64 0, .bool false, .string ⟨#[]⟩], .string ⟨#[]⟩, .int .i64 (-1)]) (res_cell3 Tryz.results142 _ _ w.heap.size _ _ _ _ rfl rfl rfl (set5 O3.out _ _ _ _ _) Tryz.underlying41 rfl (by rw [sizeCel]; rfl)) rfl ?_
     exact ⟨_, _, _, _, _, _, _, rfl, set5_below BB.out (Nat.le_refl _) _ _ _ _ _, .inl ⟨rfl, HN.out⟩⟩
end Go.Proofs.YtkomnnijnggbpaaGreatDoor
