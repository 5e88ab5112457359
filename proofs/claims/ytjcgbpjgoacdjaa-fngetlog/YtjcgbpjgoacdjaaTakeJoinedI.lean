/- The program's takeJoined: the range over the fragments. -/
import Derived.Test.YtjcgbpjgoacdjaaZ9
namespace Go.Proofs.Ytjcgbpjgoacdjaa
open Go.RowKit Go.Shelf
set_option linter.unusedVariables false
attribute [local go_sem] Oper.semAt_some

def JoinIs (w : World) (p : Nat) (s : ByteArray) (at_ q : Nat) (e : Ending) (w' : World) : Prop :=
 ∃ (T : ByteArray) (ok : Bool) (q' : Nat), e = .returned (.tuple #[.string T, .bool ok]) ∧ q ≤ q' ∧ q' ≤ s.size + 6 ∧ RdAt w' p s q' ∧ w.grownBy w' (some p) ∧ JoinOut s.data.toList at_ q' T ok
theorem res_cells {P : Program} {fn : Func} {p q : Tmp} {ty ty2 : TypeId} {v v2 : Value} (h : fn.results = #[.cell p ty, .cell q ty2]) (tmps : Array Value) (w : World) (g g2 : Nat)
   (hp : tmps.getD p undef = .pointer (some ⟨g, 0, none⟩)) (hq : tmps.getD q undef = .pointer (some ⟨g2, 0, none⟩)) (hv : (loadVar ty ⟨g, 0, none⟩).run P w = .ok v w) (hv2 : (loadVar ty2 ⟨g2, 0, none⟩).run P w = .ok v2 w) :
   (results fn tmps).run P w = .ok (.tuple #[v, v2]) w := by
 have hp' : tmps[p]?.getD undef = .pointer (some ⟨g, 0, none⟩) := by simpa using hp
 have hq' : tmps[q]?.getD undef = .pointer (some ⟨g2, 0, none⟩) := by simpa using hq
 simp [results, h, hp', hq', asAddr, hv, hv2]
theorem load_str {w : World} {g : Nat} {T : ByteArray} (h : Boxed w g 9 (.string T)) : (loadVar 9 ⟨g, 0, none⟩).run Try.prog w = .ok (.string T) w := by
 have hc := h.cell
 simp [loadVar, go_sem, hc]
theorem load_yes {w : World} {g : Nat} {b : Bool} (h : Boxed w g 4 (.bool b)) : (loadVar 4 ⟨g, 0, none⟩).run Try.prog w = .ok (.bool b) w := by
 have hc := h.cell
 simp [loadVar, go_sem, hc]
def JGo (w : World) (p : Nat) (s : ByteArray) (at_ q0 : Nat) (r : Loop) (q : Nat) (X : World) : Prop :=
 ∃ T : ByteArray, JB w p s r ⟨#[]⟩ false T q X ∧ q0 ≤ q ∧ q ≤ s.size + 6 ∧ T.size ≤ 300 ∧ Reading2 s.data.toList at_ q T.data.toList
def JEnd (w : World) (p : Nat) (s : ByteArray) (at_ q0 : Nat) (r : Loop) (X : World) : Prop :=
 ∃ (R T : ByteArray) (ok : Bool) (q : Nat), JB w p s r R ok T q X ∧ q0 ≤ q ∧ q ≤ s.size + 6 ∧ JoinOut s.data.toList at_ q R ok
def JNo (w : World) (p : Nat) (s : ByteArray) (at_ q0 : Nat) (r : Loop) (X : World) : Prop :=
 ∃ (T : ByteArray) (q : Nat), JB w p s r ⟨#[]⟩ false T q X ∧ q0 ≤ q ∧ q ≤ s.size + 6 ∧ JoinOut s.data.toList at_ q ⟨#[]⟩ false
set_option maxRecDepth 100000 in
set_option maxHeartbeats 4000000 in
theorem takeJoined_in (p : Nat) (s : ByteArray) (at_ q0 : Nat) (w : World) (h : RdAt w p s q0) (hs : s.size ≤ 1000000000000000) (hq : q0 ≤ s.size + 6) (hr0 : q0 = at_ + padAt at_) :
   CallsIn Fence.wide 5 Try.prog 66 #[.pointer (some ⟨p, 0, none⟩)] w (JoinIs w p s at_ q0) := by
 have HH := Lib.hid h
 have R0 := Lib.hid (show Reading2 s.data.toList at_ q0 (⟨#[]⟩ : ByteArray).data.toList by rw [hr0]; exact reading2_start _ _)
 clear h hr0
 refine callsIn_of_wp_marks Try.func66 rfl trivial ?_ rfl
 simp only [Try.ntmps66, List.size_toArray, List.length_cons, List.length_nil, Nat.reduceAdd, Nat.reduceSub, Array.replicate_succ, Array.replicate_zero, List.push_toArray, List.append_toArray, List.nil_append, List.cons_append]
 gi_wp2_with fail
 refine ⟨trivial, ?_⟩
 refine (fragments_at _ _ _).mono ?_
 rintro e w' ⟨rfl, rfl⟩
 simp only [World.size_alloc]
 gi_wp2_with fail
 refine range_at rfl (by decide) (gf := 83) (lb := #[.pointer (some ⟨w.heap.size + 1 + 1 + 1, 0, none⟩)]) rfl trivial (enters_of Try.func83 (by kernel_rfl) rfl) ?_
 intro r hrf hrs hrp hrt hrps hra hrb
 simp only [World.size_alloc]
 have hsz : ((((((w.alloc (.cells #[.string ⟨#[]⟩] 9)).alloc (.cells #[.bool false] 4)).alloc (.cells #[.string ⟨#[]⟩] 9)).alloc (.cells #[.pointer (some ⟨p, 0, none⟩)] 83)).alloc (.deferred (some []))).alloc (.loop r)).heap.size = w.heap.size + 6 := by simp
 have J0 := Lib.hid (show JB w p s r ⟨#[]⟩ false ⟨#[]⟩ q0 ((((((w.alloc (.cells #[.string ⟨#[]⟩] 9)).alloc (.cells #[.bool false] 4)).alloc (.cells #[.string ⟨#[]⟩] 9)).alloc (.cells #[.pointer (some ⟨p, 0, none⟩)] 83)).alloc (.deferred (some []))).alloc (.loop r)) from by
   have a1 := Boxed.new w 9 (.string ⟨#[]⟩)
   have a2 := Boxed.new (w.alloc (.cells #[.string ⟨#[]⟩] 9)) 4 (.bool false)
   have a3 := Boxed.new ((w.alloc (.cells #[.string ⟨#[]⟩] 9)).alloc (.cells #[.bool false] 4)) 9 (.string ⟨#[]⟩)
   have a4 := Boxed.new (((w.alloc (.cells #[.string ⟨#[]⟩] 9)).alloc (.cells #[.bool false] 4)).alloc (.cells #[.string ⟨#[]⟩] 9)) 83 (.pointer (some ⟨p, 0, none⟩))
   have a5 := World.alloc_heap_new ((((w.alloc (.cells #[.string ⟨#[]⟩] 9)).alloc (.cells #[.bool false] 4)).alloc (.cells #[.string ⟨#[]⟩] 9)).alloc (.cells #[.pointer (some ⟨p, 0, none⟩)] 83)) (.deferred (some []))
   have a6 := World.alloc_heap_new (((((w.alloc (.cells #[.string ⟨#[]⟩] 9)).alloc (.cells #[.bool false] 4)).alloc (.cells #[.string ⟨#[]⟩] 9)).alloc (.cells #[.pointer (some ⟨p, 0, none⟩)] 83)).alloc (.deferred (some []))) (.loop r)
   simp only [World.size_alloc] at a1 a2 a3 a4 a5 a6
   have hg : w.grownBy _ (some p) := ((((((grown_refl w (some p)).trans (World.grownBy_alloc w (.cells #[.string ⟨#[]⟩] 9) (some p))).trans (World.grownBy_alloc _ (.cells #[.bool false] 4) (some p))).trans (World.grownBy_alloc _ (.cells #[.string ⟨#[]⟩] 9) (some p))).trans (World.grownBy_alloc _ (.cells #[.pointer (some ⟨p, 0, none⟩)] 83) (some p))).trans (World.grownBy_alloc _ (.deferred (some [])) (some p))).trans (World.grownBy_alloc _ (.loop r) (some p))
   have hb : Below w.heap.size w ((((((w.alloc (.cells #[.string ⟨#[]⟩] 9)).alloc (.cells #[.bool false] 4)).alloc (.cells #[.string ⟨#[]⟩] 9)).alloc (.cells #[.pointer (some ⟨p, 0, none⟩)] 83)).alloc (.deferred (some []))).alloc (.loop r)) :=
     ((((((Below.refl _ w).alloc (Nat.le_refl _) _).alloc (by simp) _).alloc (by simp; omega) _).alloc (by simp; omega) _).alloc (by simp; omega) _).alloc (by simp; omega) _
   exact ⟨rd_under HH.out hb, ((((a1.alloc _).alloc _).alloc _).alloc _).alloc _, (((a2.alloc _).alloc _).alloc _).alloc _, ((a3.alloc _).alloc _).alloc _, (a4.alloc _).alloc _, (Below.heap_alloc _ _ _ (by simp)).trans a5, a6, hg, HH.out.lt⟩)
 clear hsz
 refine (fragments_in 4 (w.heap.size + 1 + 1 + 1 + 1 + 1) (w.heap.size + 1 + 1 + 1) p s hs (JGo w p s at_ q0 r) (JNo w p s at_ q0 r) (JEnd w p s at_ q0 { r with state := .done, pending := some .ret }) ?hJ ?round ?none _ q0 ⟨⟨#[]⟩, J0.out, Nat.le_refl _, hq, Nat.zero_le _, R0.out⟩).mono ?done
 case hJ =>
   rintro q W ⟨T, jb, _, hq1, _, _⟩
   exact ⟨jb.rd, hq1, jb.bx⟩
 case none =>
   rintro q q' W W' ⟨T, jb, hq0, hq1, hT, hrd⟩ hg h1 h2 hr' hno
   exact ⟨T, q', jb.taken hg hr', by omega, h2, join_end hrd hno⟩
 case round =>
   rintro q k m W W' ⟨T, jb, hq0, hq1, hT, hrd⟩ hg hr' hf
   have jw := jb.taken hg hr'
   have hin := hf.2.2.1
   obtain ⟨P, hP⟩ : ∃ P, P = s.extract (q + 7) (q + 7 + m) := ⟨_, rfl⟩
   have hPs : P.size = m := by rw [hP, ByteArray.size_extract]; omega
   obtain ⟨N, hN⟩ : ∃ N, N = T ++ P := ⟨_, rfl⟩
   have hNs : N.size = T.size + P.size := by rw [hN, ByteArray.size_append]
   have hPm : P.size ≤ m := by omega
   have hst := join_step hrd hf hP hN
   rw [← hP]
   have HST := Lib.hid hst
   have HN := Lib.hid hN
   refine yield_of (r := r) hrps hra hrb hrt jw.loop hrs rfl hrf ?_
   have HRR := Lib.hid (And.intro hrs hrp)
   have JW := Lib.hid jw
   have hk256 := hf.2.2.2
   clear hPs hrps hra hrb hrt hrs hrp jb jw hg hr' hf hP hrd hst hN J0 HH R0
   gi_wp2
   refine ⟨JW.out.loop, ?_⟩
   have J2 := Lib.hid (JW.out.turn { r with state := .busy })
   obtain ⟨W2, hW2⟩ : ∃ X, W'.putObj (w.heap.size + 1 + 1 + 1 + 1 + 1) (.loop { r with state := .busy }) = X := ⟨_, rfl⟩
   rw [hW2] at J2 ⊢
   clear hW2
   have hr' : ({ r with state := .ready, pending := none } : Loop) = r := by
     obtain ⟨h1, h2⟩ := HRR.out
     cases r
     simp only at h1 h2
     rw [h1, h2]
   have q1 : ¬ 9223372036854775807 < T.size + P.size := by omega
   by_cases h14 : k = 1 ∨ k = 4
   · have HK := Lib.hid h14
     have key : (((k : Int) == 1) = true ∨ (((k : Int) == 1) = false ∧ ((k : Int) == 4) = true)) := by
       rcases h14 with h | h <;> subst h <;> simp
     clear h14
     by_cases h3 : N.size ≤ 300
     · have h3i : ¬ (300 : Int) < (T.size : Int) + (P.size : Int) := by omega
       rcases key with e1 | ⟨e1, e4⟩
       · have o := HST.out.2.2.1 h3 HK.out
         rw [HN.out] at o
         have OO := Lib.hid o
         clear o
         have j3 := J2.out.setT (T ++ P)
         have c4 := J2.out.rc.cell
         have f4 := J2.out.rc.frozen
         have c5 := j3.rc.cell
         have c2 := J2.out.r2.cell
         have f2 := J2.out.r2.frozen
         have c3 := J2.out.r3.cell
         have f3 := J2.out.r3.frozen
         have ST := Lib.hid (((j3.setR (T ++ P)).setO true).turn { r with state := .done, pending := some .ret })
         have LP := Lib.hid ((j3.setR (T ++ P)).setO true).loop
         clear j3
         gi_wp2
         exact And.intro LP.out ⟨_, _, _, _, ST.out, by omega, by omega, OO.out⟩
       · have o := HST.out.2.2.1 h3 HK.out
         rw [HN.out] at o
         have OO := Lib.hid o
         clear o
         have j3 := J2.out.setT (T ++ P)
         have c4 := J2.out.rc.cell
         have f4 := J2.out.rc.frozen
         have c5 := j3.rc.cell
         have c2 := J2.out.r2.cell
         have f2 := J2.out.r2.frozen
         have c3 := J2.out.r3.cell
         have f3 := J2.out.r3.frozen
         have ST := Lib.hid (((j3.setR (T ++ P)).setO true).turn { r with state := .done, pending := some .ret })
         have LP := Lib.hid ((j3.setR (T ++ P)).setO true).loop
         clear j3
         gi_wp2
         exact And.intro LP.out ⟨_, _, _, _, ST.out, by omega, by omega, OO.out⟩
     · have h3i : (300 : Int) < (T.size : Int) + (P.size : Int) := by omega
       rcases key with e1 | ⟨e1, e4⟩
       · have OO := Lib.hid (HST.out.2.1 (by omega))
         have j3 := J2.out.setT (T ++ P)
         have c4 := J2.out.rc.cell
         have f4 := J2.out.rc.frozen
         have c5 := j3.rc.cell
         have c2 := J2.out.r2.cell
         have f2 := J2.out.r2.frozen
         have c3 := J2.out.r3.cell
         have f3 := J2.out.r3.frozen
         have ST := Lib.hid (((j3.setR ⟨#[]⟩).setO false).turn { r with state := .done, pending := some .ret })
         have LP := Lib.hid ((j3.setR ⟨#[]⟩).setO false).loop
         clear j3
         gi_wp2
         exact And.intro LP.out ⟨_, _, _, _, ST.out, by omega, by omega, OO.out⟩
       · have OO := Lib.hid (HST.out.2.1 (by omega))
         have j3 := J2.out.setT (T ++ P)
         have c4 := J2.out.rc.cell
         have f4 := J2.out.rc.frozen
         have c5 := j3.rc.cell
         have c2 := J2.out.r2.cell
         have f2 := J2.out.r2.frozen
         have c3 := J2.out.r3.cell
         have f3 := J2.out.r3.frozen
         have ST := Lib.hid (((j3.setR ⟨#[]⟩).setO false).turn { r with state := .done, pending := some .ret })
         have LP := Lib.hid ((j3.setR ⟨#[]⟩).setO false).loop
         clear j3
         gi_wp2
         exact And.intro LP.out ⟨_, _, _, _, ST.out, by omega, by omega, OO.out⟩
   · have e1 : ((k : Int) == 1) = false := beq_eq_false_iff_ne.2 (by omega)
     have e4 : ((k : Int) == 4) = false := beq_eq_false_iff_ne.2 (by omega)
     by_cases h23 : k = 2 ∨ k = 3
     · have HK := Lib.hid h23
       have key : (((k : Int) == 2) = true ∨ (((k : Int) == 2) = false ∧ ((k : Int) == 3) = true)) := by
         rcases h23 with h | h <;> subst h <;> simp
       by_cases h3 : N.size ≤ 300
       · have h3i : ¬ (300 : Int) < (T.size : Int) + (P.size : Int) := by omega
         rcases key with e2 | ⟨e2, e3⟩
         · have hxx : True := trivial
           have j3 := J2.out.setT (T ++ P)
           have c4 := J2.out.rc.cell
           have f4 := J2.out.rc.frozen
           have c5 := j3.rc.cell
           have c2 := J2.out.r2.cell
           have f2 := J2.out.r2.frozen
           have hr2 := j3.turn { r with state := .ready, pending := none }
           rw [hr'] at hr2
           have GO := Lib.hid hr2
           have LP := Lib.hid j3.loop
           clear j3 hr2
           gi_wp2
           refine And.intro LP.out ?_
           rw [hr']
           exact ⟨_, GO.out, by omega, by omega, by rw [← HN.out]; exact h3, by rw [← HN.out]; exact HST.out.2.2.2 HK.out⟩
         · have hxx : True := trivial
           have j3 := J2.out.setT (T ++ P)
           have c4 := J2.out.rc.cell
           have f4 := J2.out.rc.frozen
           have c5 := j3.rc.cell
           have c2 := J2.out.r2.cell
           have f2 := J2.out.r2.frozen
           have hr2 := j3.turn { r with state := .ready, pending := none }
           rw [hr'] at hr2
           have GO := Lib.hid hr2
           have LP := Lib.hid j3.loop
           clear j3 hr2
           gi_wp2
           refine And.intro LP.out ?_
           rw [hr']
           exact ⟨_, GO.out, by omega, by omega, by rw [← HN.out]; exact h3, by rw [← HN.out]; exact HST.out.2.2.2 HK.out⟩
       · have h3i : (300 : Int) < (T.size : Int) + (P.size : Int) := by omega
         rcases key with e2 | ⟨e2, e3⟩
         · have OO := Lib.hid (HST.out.2.1 (by omega))
           have j3 := J2.out.setT (T ++ P)
           have c4 := J2.out.rc.cell
           have f4 := J2.out.rc.frozen
           have c5 := j3.rc.cell
           have c2 := J2.out.r2.cell
           have f2 := J2.out.r2.frozen
           have c3 := J2.out.r3.cell
           have f3 := J2.out.r3.frozen
           have ST := Lib.hid (((j3.setR ⟨#[]⟩).setO false).turn { r with state := .done, pending := some .ret })
           have LP := Lib.hid ((j3.setR ⟨#[]⟩).setO false).loop
           clear j3
           gi_wp2
           exact And.intro LP.out ⟨_, _, _, _, ST.out, by omega, by omega, OO.out⟩
         · have OO := Lib.hid (HST.out.2.1 (by omega))
           have j3 := J2.out.setT (T ++ P)
           have c4 := J2.out.rc.cell
           have f4 := J2.out.rc.frozen
           have c5 := j3.rc.cell
           have c2 := J2.out.r2.cell
           have f2 := J2.out.r2.frozen
           have c3 := J2.out.r3.cell
           have f3 := J2.out.r3.frozen
           have ST := Lib.hid (((j3.setR ⟨#[]⟩).setO false).turn { r with state := .done, pending := some .ret })
           have LP := Lib.hid ((j3.setR ⟨#[]⟩).setO false).loop
           clear j3
           gi_wp2
           exact And.intro LP.out ⟨_, _, _, _, ST.out, by omega, by omega, OO.out⟩
     · have e2 : ((k : Int) == 2) = false := beq_eq_false_iff_ne.2 (by omega)
       have e3 : ((k : Int) == 3) = false := beq_eq_false_iff_ne.2 (by omega)
       have OO := Lib.hid (HST.out.1 (by omega))
       have c2 := J2.out.r2.cell
       have f2 := J2.out.r2.frozen
       have c3 := J2.out.r3.cell
       have f3 := J2.out.r3.frozen
       have ST := Lib.hid (((J2.out.setR ⟨#[]⟩).setO false).turn { r with state := .done, pending := some .ret })
       have LP := Lib.hid ((J2.out.setR ⟨#[]⟩).setO false).loop
       gi_wp2
       exact And.intro LP.out ⟨_, _, _, _, ST.out, by omega, by omega, OO.out⟩
 case done =>
   clear hrps hra hrb hrt hrs hrp J0 HH R0
   rintro e W ⟨⟨v, rfl⟩, (⟨T, q, jb, h1, h2, ho⟩ | ⟨R, T, ok, q, jb, h1, h2, ho⟩)⟩
   · refine ⟨⟨_, rfl⟩, .inl ⟨jb.loop, ?_⟩⟩
     have J2 := Lib.hid (jb.turn { r with state := .exhausted })
     have HO := Lib.hid ho
     clear jb ho
     obtain ⟨W2, hW2⟩ : ∃ X, W.putObj (w.heap.size + 1 + 1 + 1 + 1 + 1) (.loop { r with state := .exhausted }) = X := ⟨_, rfl⟩
     rw [hW2] at J2 ⊢
     clear hW2
     have c2 := J2.out.r2.cell
     have f2 := J2.out.r2.frozen
     have c3 := J2.out.r3.cell
     have f3 := J2.out.r3.frozen
     have ST := Lib.hid ((J2.out.setR ⟨#[]⟩).setO false)
     gi_wp2
     refine ⟨by simp, .inl ⟨_, _, rfl, run_takeDeferred ST.out.dfr, ?_⟩⟩
     have hg := grownBy_putObj' ((W2.setCell ⟨w.heap.size, 0, none⟩ (.string ⟨#[]⟩)).setCell ⟨w.heap.size + 1, 0, none⟩ (.bool false)) (w.heap.size + 1 + 1 + 1 + 1) (.deferred none)
     have k2 := ST.out.r2.kept hg (fun e => absurd (Option.some.inj e) (by omega))
     have k3 := ST.out.r3.kept hg (fun e => absurd (Option.some.inj e) (by omega))
     have kr := (hg.block _ ST.out.rd.lt (fun e => absurd (Option.some.inj e) (by have := ST.out.lt; omega))).trans ST.out.rd
     exact ⟨_, res_cells rfl _ _ w.heap.size (w.heap.size + 1) rfl rfl (load_str k2) (load_yes k3), ⟨#[]⟩, false, q, rfl, h1, h2, kr, grown_past ST.out.gr hg (.inr (by omega)), HO.out⟩
   · refine ⟨⟨_, rfl⟩, .inr ⟨jb.loop, ?_⟩⟩
     have J2 := Lib.hid (jb.turn { r with state := .exhausted, pending := some .ret })
     have HO := Lib.hid ho
     clear jb ho
     obtain ⟨W2, hW2⟩ : ∃ X, W.putObj (w.heap.size + 1 + 1 + 1 + 1 + 1) (.loop { r with state := .exhausted, pending := some .ret }) = X := ⟨_, rfl⟩
     rw [hW2] at J2 ⊢
     clear hW2
     refine ⟨by simp, .inl ⟨_, _, rfl, run_takeDeferred J2.out.dfr, ?_⟩⟩
     have hg := grownBy_putObj' W2 (w.heap.size + 1 + 1 + 1 + 1) (.deferred none)
     have k2 := J2.out.r2.kept hg (fun e => absurd (Option.some.inj e) (by omega))
     have k3 := J2.out.r3.kept hg (fun e => absurd (Option.some.inj e) (by omega))
     have kr := (hg.block _ J2.out.rd.lt (fun e => absurd (Option.some.inj e) (by have := J2.out.lt; omega))).trans J2.out.rd
     exact ⟨_, res_cells rfl _ _ w.heap.size (w.heap.size + 1) rfl rfl (load_str k2) (load_yes k3), R, ok, q, rfl, h1, h2, kr, grown_past J2.out.gr hg (.inr (by omega)), HO.out⟩
theorem takeJoined_at (p : Nat) (s : ByteArray) (at_ q0 : Nat) (w : World) (h : RdAt w p s q0) (hs : s.size ≤ 1000000000000000) (hq : q0 ≤ s.size + 6) (hr0 : q0 = at_ + padAt at_) :
   Calls Try.prog 66 #[.pointer (some ⟨p, 0, none⟩)] w (JoinIs w p s at_ q0) := callsIn_wide.1 (takeJoined_in p s at_ q0 w h hs hq hr0)
end Go.Proofs.Ytjcgbpjgoacdjaa
