/-
  The walk of the statement CtlTwo: its loop.
-/
import Derived.Test.YtaagfaidjihjcaaM8l
import Derived.Test.YtaagfaidjihjcaaB8zb
import Derived.Deep.CutBlock
namespace Go.Proofs.Ytaagfaidjihjcaa
open Go.RowKit Go.Sort
set_option linter.unusedVariables false

/-- The first loop of a text. -/
def loopOf : Code → Option Code
  | .loop c => some (.loop c)
  | .seq a b => match loopOf a with
    | some c => some c
    | none => loopOf b
  | .block _ c => loopOf c
  | .scope c => loopOf c
  | .cond _ a b => match loopOf a with
    | some c => some c
    | none => loopOf b
  | _ => none
noncomputable def twoLoop : Code := (Try.f4.body.bind loopOf).getD .skip

theorem ol_setNB {α : Type} {f : α → Value} {E : TypeId} {B : Nat} {w : World} {a : Option Addr} {n k : Nat} {l : List α} (h : OL f E B w a n k l) {p : Nat} (hp : NB a p) (cs : Array Value) : OL f E B (w.setRow p cs) a n k l :=
  h.kept fun q hq => setRow_other _ _ _ _ (fun e => hp _ hq e)

theorem put_none (a : Act) (v : Value) : a.put none v = a := rfl

/-- The cells of a box that holds what happened. -/
theorem hap_cells {w : World} {g k : Nat} {kI : Int} {id : Nat} {ext rem : Bool} {dlc : Nat} {l : List UInt8} {a : Option Addr} {n : Nat} {T : TypeId} (h : w.heap[g]? = some (.cells (hapA (k, ⟨id, ext, rem, dlc, l⟩) a n) T (0, 0))) (hk : (k : Int) = kI) :
    w.cell? ⟨g, 0, none⟩ = some (.int .u8 kI) ∧ w.cell? ⟨g, 1, none⟩ = some (.int .u32 (id : Int)) ∧ w.cell? ⟨g, 2, none⟩ = some (.bool ext) ∧ w.cell? ⟨g, 3, none⟩ = some (.bool rem) ∧ w.cell? ⟨g, 4, none⟩ = some (.int .u8 (dlc : Int)) ∧ w.cell? ⟨g, 5, none⟩ = some (.slice a l.length n) := by
  subst hk
  exact ⟨(cell_of_row _ _ 0 _ _ _ h).trans rfl, (cell_of_row _ _ 1 _ _ _ h).trans rfl, (cell_of_row _ _ 2 _ _ _ h).trans rfl, (cell_of_row _ _ 3 _ _ _ h).trans rfl, (cell_of_row _ _ 4 _ _ _ h).trans rfl, (cell_of_row _ _ 5 _ _ _ h).trans rfl⟩

theorem two_cnt {P Q d i lo tn se tn1 se1 lo2 tn2 se2 : Nat} (h : lo = (if d < i then 1 else 0) ∧ tn = (if P + 8 < i then 1 else 0) + (if P + 13 + (Q + 8) < i then 1 else 0) ∧ se = (if P + 9 < i then 1 else 0) + (if P + 13 + (Q + 9) < i then 1 else 0))
    (k : tn1 = tn + (if i = P + 13 + (Q + 8) then 1 else 0) ∧ se1 = se + (if i = P + 9 then 1 else 0))
    (k2 : lo2 = lo + (if i = d then 1 else 0) ∧ tn2 = tn1 + (if i = P + 8 then 1 else 0) ∧ se2 = se1 + (if i = P + 13 + (Q + 9) then 1 else 0)) :
    (lo2 ≤ 1 ∧ tn2 ≤ 2 ∧ se2 ≤ 2) ∧ (lo2 = (if d < i + 1 then 1 else 0) ∧ tn2 = (if P + 8 < i + 1 then 1 else 0) + (if P + 13 + (Q + 8) < i + 1 then 1 else 0) ∧ se2 = (if P + 9 < i + 1 then 1 else 0) + (if P + 13 + (Q + 9) < i + 1 then 1 else 0)) := by
  obtain ⟨rfl, rfl, rfl⟩ := h
  obtain ⟨rfl, rfl⟩ := k
  obtain ⟨rfl, rfl, rfl⟩ := k2
  refine ⟨⟨?_, ?_, ?_⟩, ?_, ?_, ?_⟩ <;> (repeat' split) <;> omega

theorem plain_bus : plainFn 14 = true := by kernel_rfl

set_option maxRecDepth 1000000 in
set_option maxHeartbeats 16000000 in
theorem ctlTwo_loop {v0 v1 v2 v3 v4 v8 v10 v12 v14 v18 v19 v20 v21 v22 v23 v24 v25 v26 v27 v28 v29 v30 v31 v32 v33 v34 v35 v36 v37 v38 v39 v40 v41 v42 v43 v44 v45 v46 v47 v48 v49 v50 v51 v52 v53 v54 v55 v56 v57 v58 v59 v60 v61 v62 v63 v64 v65 v66 v67 v68 v69 v70 v71 v72 v73 v74 v77 v78 v79 v80 v81 v82 v83 v84 v85 v86 v87 v88 v89 v90 v91 v92 v93 v94 v95 v96 v97 v98 v99 v100 v101 v102 v103 v104 v105 v106 v107 v108 v109 v110 v111 v112 v113 v114 v115 v116 v117 v118 v119 v120 v121 v122 v123 v124 v125 v126 v127 v128 v129 v130 v131 v132 v133 v134 v135 v136 v137 v138 v139 v140 v141 v142 v143 v144 v145 v146 v147 v148 v149 v150 v151 v152 v153 v154 v155 v156 v157 v158 v159 v160 v161 v162 v163 v164 v165 v166 v167 v168 v169 v170 v171 v172 v173 v174 v175 v176 v177 v178 v179 v180 v181 v182 v183 v184 v185 v186 v187 v188 v189 v190 v191 v192 v193 v194 v195 v196 v197 v198 v199 v200 v201 v202 v203 v204 v205 v206 v207 v208 v209 v210 v211 v212 v213 v214 v215 v216 v217 v218 v219 v220 v221 v222 v223 v224 v225 v226 v227 v228 v229 v230 v231 v232 v233 v234 v235 : Value} {q1 q2 pa pb : Nat} {a6 a7 : Option Addr} {N1 N2 M c6 c7 : Nat} {Q0 : Exit → Act → World → Prop} {wb w7 : World}
    (F G : Fr) (P Q d : Nat) (W : List Bool) (s2 s4 : Sl) (i1 : Nat) (e1 r1 : Bool) (d1 : Nat) (a1 : Option Addr) (c1 : Nat) (l1 : List UInt8) (i2 : Nat) (e2 r2 : Bool) (d2 : Nat) (a2 : Option Addr) (c2 : Nat) (l2 : List UInt8) (B5 : Nat)
    (bN1 : N1 ≤ 160) (bN2 : N2 ≤ 160) (bM : M ≤ 400)
    (HK : Hid (N1 = P + 10 ∧ N2 = Q + 10 ∧ M = N1 + 3 + N2 ∧ d < 40 ∧ d < P ∧ 34 ≤ P ∧ 34 ≤ Q))
    (HT : Hid ((∀ (i : Nat) (a b : Ct), i < P + 13 + (Q + 10) → TW F G P Q d i a b → StepOK a ∧ StepOK b) ∧ ∀ (i : Nat) (a b : Ct), i < P + 13 + (Q + 10) → TW F G P Q d i a b →
      TW F G P Q d (i + 1) (stC a (dvC a && dvC b)).1 (stC b (dvC a && dvC b)).1 ∧
      (stC a (dvC a && dvC b)).2 = (if i = P + 9 then (1, F) else if i = P + 13 + (Q + 8) then (2, G) else noH) ∧
      (stC b (dvC a && dvC b)).2 = (if i = d then (3, zeroFr) else if i = P + 8 then (2, F) else if i = P + 13 + (Q + 9) then (1, G) else noH) ∧
      (i < P + 10 → (dvC a && dvC b) = ((W[i]?.getD false) && !decide (i = P + 1)))))
    (HS : Hid (TW F G P Q d 0 (giC F) (giC G))) (HF : Hid (F = ⟨i1, e1, r1, d1, l1⟩)) (HG : Hid (G = ⟨i2, e2, r2, d2, l2⟩))
    (hbF : wb.heap[q1]? = some (.cells #[.int .u32 (i1 : Int), .bool e1, .bool r1, .int .u8 (d1 : Int), .slice a1 l1.length c1] 25 (0, 0)))
    (hbG : wb.heap[q2]? = some (.cells #[.int .u32 (i2 : Int), .bool e2, .bool r2, .int .u8 (d2 : Int), .slice a2 l2.length c2] 25 (0, 0)))
    (hl1 : RL bv wb a1 l1.length c1 l1) (hl2 : RL bv wb a2 l2.length c2 l2)
    (lA : wb.heap.size ≤ pa) (lB : wb.heap.size ≤ pb) (lAB : pa < pb) (lB5 : pb < B5)
    (CA : Cb w7 pa (giC F) s2) (CB : Cb w7 pb (giC G) s4) (NA : NBs s2 pb) (NB : NBs s4 pa) (OW : OL .bool 4 B5 w7 a6 N1 c6 W) (gg7 : Below wb.heap.size wb w7)
    (hQP : ∀ (c : List PanicEntry) (a a' : Act) (w : World), Q0 (.panic c) a w → Q0 (.panic c) a' w)
    (hexit : ∀ (z4 z18 z19 z20 z21 z76 z77 z78 z79 z80 z81 z82 z83 z84 z85 z86 z87 z88 z89 z90 z91 z92 z93 z94 z95 z96 z97 z98 z99 z100 z101 z102 z103 z104 z105 z106 z107 z108 z109 z110 z111 z112 z113 z114 z115 z116 z117 z118 z119 z120 z121 z122 z123 z124 z125 z126 z127 z128 z129 z130 z131 z132 z133 z134 z135 z136 z137 z138 z139 z140 z141 z142 z143 z144 z145 z146 z147 z148 z149 z150 z151 z152 z153 z154 z155 z156 z157 z158 z159 z160 z161 z162 z163 z164 z165 z166 z167 z168 z169 z170 z171 z172 z173 z174 z175 z176 z177 z178 z179 z180 z181 z182 z183 z184 z185 z186 z187 z188 z189 z190 z191 z192 z193 z194 z195 z196 z197 z198 z199 z200 z201 z202 z203 z204 z205 z206 z207 z208 z209 z210 z211 z212 z213 z214 z215 z216 z217 z218 z219 z220 z221 z222 : Value) (lo tn se : Nat) (w : World), lo = 1 → tn = 2 → se = 2 → Below wb.heap.size wb w → Q0 (.exit 0) ⟨List.toArray (v0 :: v1 :: v2 :: v3 :: z4 :: .pointer (some ⟨q1, 0, none⟩) :: .pointer (some ⟨q2, 0, none⟩) :: .pointer (some ⟨pa, 0, none⟩) :: v8 :: .pointer (some ⟨pb, 0, none⟩) :: v10 :: .slice a6 N1 c6 :: v12 :: .slice a7 N2 c7 :: v14 :: .int .i64 (lo : Int) :: .int .i64 (tn : Int) :: .int .i64 (se : Int) :: z18 :: z19 :: z20 :: z21 :: v22 :: v23 :: v24 :: v25 :: v26 :: v27 :: v28 :: v29 :: v30 :: v31 :: v32 :: v33 :: v34 :: v35 :: v36 :: v37 :: v38 :: v39 :: v40 :: v41 :: v42 :: v43 :: v44 :: v45 :: v46 :: v47 :: v48 :: v49 :: v50 :: v51 :: v52 :: v53 :: v54 :: v55 :: v56 :: v57 :: v58 :: v59 :: v60 :: v61 :: v62 :: v63 :: v64 :: v65 :: v66 :: v67 :: v68 :: v69 :: v70 :: v71 :: v72 :: v73 :: v74 :: .int .i64 (M : Int) :: z76 :: z77 :: z78 :: z79 :: z80 :: z81 :: z82 :: z83 :: z84 :: z85 :: z86 :: z87 :: z88 :: z89 :: z90 :: z91 :: z92 :: z93 :: z94 :: z95 :: z96 :: z97 :: z98 :: z99 :: z100 :: z101 :: z102 :: z103 :: z104 :: z105 :: z106 :: z107 :: z108 :: z109 :: z110 :: z111 :: z112 :: z113 :: z114 :: z115 :: z116 :: z117 :: z118 :: z119 :: z120 :: z121 :: z122 :: z123 :: z124 :: z125 :: z126 :: z127 :: z128 :: z129 :: z130 :: z131 :: z132 :: z133 :: z134 :: z135 :: z136 :: z137 :: z138 :: z139 :: z140 :: z141 :: z142 :: z143 :: z144 :: z145 :: z146 :: z147 :: z148 :: z149 :: z150 :: z151 :: z152 :: z153 :: z154 :: z155 :: z156 :: z157 :: z158 :: z159 :: z160 :: z161 :: z162 :: z163 :: z164 :: z165 :: z166 :: z167 :: z168 :: z169 :: z170 :: z171 :: z172 :: z173 :: z174 :: z175 :: z176 :: z177 :: z178 :: z179 :: z180 :: z181 :: z182 :: z183 :: z184 :: z185 :: z186 :: z187 :: z188 :: z189 :: z190 :: z191 :: z192 :: z193 :: z194 :: z195 :: z196 :: z197 :: z198 :: z199 :: z200 :: z201 :: z202 :: z203 :: z204 :: z205 :: z206 :: z207 :: z208 :: z209 :: z210 :: z211 :: z212 :: z213 :: z214 :: z215 :: z216 :: z217 :: z218 :: z219 :: z220 :: z221 :: z222 :: v223 :: v224 :: v225 :: v226 :: v227 :: v228 :: v229 :: v230 :: v231 :: v232 :: v233 :: v234 :: v235 :: []), []⟩ w) :
    Code.wp Try.prog twoLoop Q0 ⟨List.toArray (v0 :: v1 :: v2 :: v3 :: v4 :: .pointer (some ⟨q1, 0, none⟩) :: .pointer (some ⟨q2, 0, none⟩) :: .pointer (some ⟨pa, 0, none⟩) :: v8 :: .pointer (some ⟨pb, 0, none⟩) :: v10 :: .slice a6 N1 c6 :: v12 :: .slice a7 N2 c7 :: v14 :: .int .i64 0 :: .int .i64 0 :: .int .i64 0 :: v18 :: v19 :: v20 :: v21 :: v22 :: v23 :: v24 :: v25 :: v26 :: v27 :: v28 :: v29 :: v30 :: v31 :: v32 :: v33 :: v34 :: v35 :: v36 :: v37 :: v38 :: v39 :: v40 :: v41 :: v42 :: v43 :: v44 :: v45 :: v46 :: v47 :: v48 :: v49 :: v50 :: v51 :: v52 :: v53 :: v54 :: v55 :: v56 :: v57 :: v58 :: v59 :: v60 :: v61 :: v62 :: v63 :: v64 :: v65 :: v66 :: v67 :: v68 :: v69 :: v70 :: v71 :: v72 :: v73 :: v74 :: .int .i64 (M : Int) :: .int .i64 0 :: v77 :: v78 :: v79 :: v80 :: v81 :: v82 :: v83 :: v84 :: v85 :: v86 :: v87 :: v88 :: v89 :: v90 :: v91 :: v92 :: v93 :: v94 :: v95 :: v96 :: v97 :: v98 :: v99 :: v100 :: v101 :: v102 :: v103 :: v104 :: v105 :: v106 :: v107 :: v108 :: v109 :: v110 :: v111 :: v112 :: v113 :: v114 :: v115 :: v116 :: v117 :: v118 :: v119 :: v120 :: v121 :: v122 :: v123 :: v124 :: v125 :: v126 :: v127 :: v128 :: v129 :: v130 :: v131 :: v132 :: v133 :: v134 :: v135 :: v136 :: v137 :: v138 :: v139 :: v140 :: v141 :: v142 :: v143 :: v144 :: v145 :: v146 :: v147 :: v148 :: v149 :: v150 :: v151 :: v152 :: v153 :: v154 :: v155 :: v156 :: v157 :: v158 :: v159 :: v160 :: v161 :: v162 :: v163 :: v164 :: v165 :: v166 :: v167 :: v168 :: v169 :: v170 :: v171 :: v172 :: v173 :: v174 :: v175 :: v176 :: v177 :: v178 :: v179 :: v180 :: v181 :: v182 :: v183 :: v184 :: v185 :: v186 :: v187 :: v188 :: v189 :: v190 :: v191 :: v192 :: v193 :: v194 :: v195 :: v196 :: v197 :: v198 :: v199 :: v200 :: v201 :: v202 :: v203 :: v204 :: v205 :: v206 :: v207 :: v208 :: v209 :: v210 :: v211 :: v212 :: v213 :: v214 :: v215 :: v216 :: v217 :: v218 :: v219 :: v220 :: v221 :: v222 :: v223 :: v224 :: v225 :: v226 :: v227 :: v228 :: v229 :: v230 :: v231 :: v232 :: v233 :: v234 :: v235 :: []), []⟩ w7 := by
  conv => arg 2; whnf
  go_loopg [15, 16, 17, 76] M (fun gn s15 s16 s17 idx wr => ∃ (i : Nat) (ca cb : Ct) (sa sb : Sl) (lo tn se : Nat), i ≤ M ∧ gn = M - i ∧ idx = .int .i64 (i : Int) ∧ s15 = .int .i64 (lo : Int) ∧ s16 = .int .i64 (tn : Int) ∧ s17 = .int .i64 (se : Int) ∧ lo ≤ 1 ∧ tn ≤ 2 ∧ se ≤ 2 ∧
    Cb wr pa ca sa ∧ Cb wr pb cb sb ∧ NBs sa pb ∧ NBs sb pa ∧ OL .bool 4 B5 wr a6 N1 c6 W ∧ Below wb.heap.size wb wr ∧ Hid (TW F G P Q d i ca cb) ∧
    Hid (lo = (if d < i then 1 else 0) ∧ tn = (if P + 8 < i then 1 else 0) + (if P + 13 + (Q + 8) < i then 1 else 0) ∧ se = (if P + 9 < i then 1 else 0) + (if P + 13 + (Q + 9) < i then 1 else 0)))
  case atStart => exact ⟨0, giC F, giC G, s2, s4, 0, 0, 0, by omega, by omega, rfl, rfl, rfl, rfl, by omega, by omega, by omega, CA, CB, NA, NB, OW, gg7, HS, hid ⟨by simp, by simp, by simp⟩⟩
  case round =>
    clear CA CB NA NB OW gg7 HS
    obtain ⟨i, ca, cb, sa, sb, lo, tn, se, hik, rfl, rfl, rfl, rfl, rfl, blo, bto, bse, hA, hB, nA, nB, hW, hbel, HS, HC⟩ := hrel
    by_cases hlt : i < M
    · have HX0 := hid hexit
      clear hexit
      have hiM : i < P + 13 + (Q + 10) := by have := HK.out; omega
      obtain ⟨hokA, hokB⟩ := HT.out.1 i ca cb hiM HS.out
      have hst := HT.out.2 i ca cb hiM HS.out
      have hDa := fun (w2 : World) (h1 : CtR w2 ca sa) => drive_any w2 ca sa h1 hokA.ph (fun e1 e2 => (hokA.sn e1 e2).pos)
      have hDb := fun (w2 : World) (h1 : CtR w2 cb sb) => drive_any w2 cb sb h1 hokB.ph (fun e1 e2 => (hokB.sn e1 e2).pos)
      obtain ⟨x, hx⟩ : ∃ x, x = (dvC ca && dvC cb) := ⟨_, rfl⟩
      rw [← hx] at hst
      have hSa := fun (w2 : World) (h1 : CtR w2 ca sa) => step_any w2 ca sa x h1 hokA
      have hSb := fun (w2 : World) (h1 : CtR w2 cb sb) => step_any w2 cb sb x h1 hokB
      have HN := hid hst
      generalize stC ca x = ra at hSa HN
      generalize stC cb x = rb at hSb HN
      generalize dvC ca = va at hDa hx
      generalize dvC cb = vb at hDb hx
      have HX := hid hx
      clear hst hokA hokB hx HS hiM
      go_upto_region 16 with fail
      have hAb := hA.box
      have hBb := hB.box
      have hAr := hA.r
      have hBr := hB.r
      have hS0 : Below wr.heap.size wr wr.drew := below_drew1 (Below.refl _ _)
      refine Rest.begin (S := fun w' => Below wr.heap.size wr w') (X := [1, 3]) (by kernel_rfl) ?_
      change Rest _ _ _ _ _ _ _ _ _ wr.drew
      refine Rest.takeS (i := 0) (v := .agg (ctA ca sa)) rfl (by kernel_rfl) (by kernel_rfl) (by kernel_rfl) (by kernel_rfl) (fun _ _ _ h => hQP _ _ _ _ h) hS0 (yields_loadR rowC (by simp [Region.wanted]) _ rfl pa (by simp [Act.eval]) _ rfl (fun w h => ⟨_, _, bx_below hAb h⟩)) ?_
      refine Rest.takeS (i := 2) (v := .agg (ctA cb sb)) rfl (by kernel_rfl) (by kernel_rfl) (by kernel_rfl) (by kernel_rfl) (fun _ _ _ h => hQP _ _ _ _ h) hS0 (yields_loadR rowC (by simp [Region.wanted]) _ rfl pb (by simp [Act.eval, Act.put]) _ rfl (fun w h => ⟨_, _, bx_below hBb h⟩)) ?_
      refine Rest.one (i := 1) (by kernel_rfl) rfl (fun K hK => ?_)
      refine draw_callF 13 plain_drive (by simp [Region.wanted]) _ _ _ rfl (by simp [Act.eval]) #[.agg (ctA ca sa)] (by simp [Act.eval, Act.put]) _ (hDa wr.drew (hAr.below hS0)) ?_
      rintro e w4 ⟨rfl, g4⟩
      refine ⟨_, rfl, ?_⟩
      have hS4 := bstep hS0 g4
      refine hK _ _ ⟨.inl hS4, ?_⟩; clear hK K
      refine Rest.one (i := 3) (by kernel_rfl) rfl (fun K hK => ?_)
      refine draw_callF 13 plain_drive (by simp [Region.wanted]) _ _ _ rfl (by simp [Act.eval]) #[.agg (ctA cb sb)] (by simp [Act.eval, Act.put]) _ (hDb w4 (hBr.below hS4)) ?_
      rintro e w5 ⟨rfl, g5⟩
      refine ⟨_, rfl, ?_⟩
      have hS5 := bstep hS4 g5
      refine hK _ _ ⟨.inl hS5, Rest.of_any _ _ _ _ (thru_of (by kernel_rfl)) ?_⟩; clear hK K
      refine wpAny_ready (rs := [4]) (by kernel_rfl) (by simp) ?_
      refine AllReady.cons rfl (fun K hK => ?_) AllReady.nil
      go_simp
      refine hK _ _ ?_; clear hK K
      have HXv : Hid ((va && vb) = x) := HX.out.symm
      refine wpAny_ready (rs := [5]) (by kernel_rfl) (by simp) ?_
      refine AllReady.cons rfl (fun K hK => ?_) AllReady.nil
      refine draw_callF 14 plain_bus (by simp [Region.wanted]) _ _ _ rfl (by simp [Act.eval]) #[.slice (some ⟨w5.heap.size, 0, none⟩) 2 2] (by simp [Act.eval]) _ (bus_two w5 va vb _ rfl) ?_
      rw [HXv.out]
      rintro e w6 ⟨rfl, rfl⟩
      refine ⟨_, rfl, ?_⟩
      refine hK _ _ ?_; clear hK K
      refine wpAny_take (i := 6) (v := .bool x) rfl (by kernel_rfl) (by kernel_rfl) (by kernel_rfl) (fun _ _ _ h => hQP _ _ _ _ h) (Or.inl ⟨by simp [Region.wanted], ?_⟩) ?_
      · intro w; go_simp
      refine wpAny_done (by kernel_rfl) ?_ _
      have g6 := bnew hS5 (.cells #[.bool va, .bool vb] 4)
      have hA6 := hA.below g6
      have hB6 := hB.below g6
      have hW6 := hW.below g6
      have b6 := bstep hbel g6
      clear hAb hBb hAr hBr hS0 hS4 hS5 g4 g5 hDa hDb hA hB hW hbel g6 HX
      generalize w5.alloc (.cells #[.bool va, .bool vb] 4) = w6 at *
      clear HXv
      go_simp
      go_upto_region 17 with fail
      go_cut [103] from 85 to 103 (fun s103 wx => s103 = .bool false ∧ wx = w6)
      case first =>
        by_cases hl1 : i < N1
        · obtain ⟨bb, off, y, hbb, hy, hck⟩ := hW6.rl.at hl1
          have HY := hid (show x = (y && !decide (i = P + 1)) by
            have := HN.out.2.2.2 (by have := HK.out; omega)
            rw [hy] at this
            exact this)
          subst hbb
          clear hy HN HT HC
          by_cases e9 : i = P + 1
          · have q9 : ((i : Int) != (N1 : Int) - 9) = false := by have := HK.out; simp; omega
            obtain rfl : x = false := by rw [HY.out, decide_eq_true e9]; simp
            clear HY e9
            cases y
            all_goals
              go_wp2_with fail
              go_meet
              exact ⟨rfl, rfl⟩
          · have q9 : ((i : Int) != (N1 : Int) - 9) = true := by have := HK.out; simp; omega
            obtain rfl : x = y := by rw [HY.out, decide_eq_false e9]; simp
            clear HY e9
            cases x
            all_goals
              go_wp2_with fail
              go_meet
              exact ⟨rfl, rfl⟩
        · go_wp2_with fail
          go_meet
          exact ⟨rfl, rfl⟩
      case rest =>
      obtain ⟨rfl, rfl⟩ := hcut
      go_upto_region 20 with fail
      have nW1 : NB a6 wc.heap.size := fun q hq e => by have := (hW6.ltB hq).1; omega
      have nW2 : NB a6 (wc.heap.size + 1) := fun q hq e => by have := (hW6.ltB hq).1; omega
      have hA5 := hA6.alloc (.cells hap0 44) |>.alloc (.cells hap0 44)
      have hB5 := hB6.alloc (.cells hap0 44) |>.alloc (.cells hap0 44)
      have hW5 := hW6.below (bnew (bnew0 wc (.cells hap0 44)) (.cells hap0 44))
      have hp5 := bx_alloc (.cells hap0 44) (heap_alloc_new wc (.cells hap0 44))
      have hq5 : ((wc.alloc (.cells hap0 44)).alloc (.cells hap0 44)).heap[wc.heap.size + 1]? = some (.cells hap0 44 (0, 0)) := by
        have := heap_alloc_new (wc.alloc (.cells hap0 44)) (.cells hap0 44); rwa [heap_size_alloc] at this
      have b5 : Below wb.heap.size wb ((wc.alloc (.cells hap0 44)).alloc (.cells hap0 44)) := bnew (bnew b6 _) _
      have lpa := hA6.lt
      have lpb := hB6.lt
      have lw1 := b6.size
      have nBp := hB6.o.fresh (Nat.le_refl wc.heap.size)
      have nBq := hB6.o.fresh (Nat.le_succ wc.heap.size)
      simp only [Nat.succ_eq_add_one] at nBq
      clear hA6 hB6 b6 hW6
      change Code.wp _ _ _ _ ((wc.alloc (.cells hap0 44)).alloc (.cells hap0 44))
      generalize (wc.alloc (.cells hap0 44)).alloc (.cells hap0 44) = w6 at *
      generalize hph : wc.heap.size = ph at *
      clear hph
      have lq6 := bx_lt hq5
      have hAb := hA5.box
      have hAr := hA5.r
      go_upto_region 21 with (first
        | (with_reducible refine wpList_loadR rowC rfl _ rfl _ rfl hAb rfl ?_)
        | (go_at_call 15; (with_reducible refine (hSa _ hAr).mono ?_); rintro e w7 ⟨s7, a8, n8, rfl, o7, y7, g7⟩
           have hA7 := bx_below hAb g7
           have hp7 := (setRow_other w7 pa ph (ctA ra.1 s7) (by omega)).trans (bx_below hp5 g7))
        | (with_reducible refine wpList_storeR rowC rfl _ _ rfl _ _ rfl rfl hA7 rfl rfl (ct_ones _ _) ?_)
        | (with_reducible refine wpList_storeR rowH rfl _ _ rfl _ _ rfl rfl hp7 rfl rfl (hap_ones _ _ _) ?_))
      have l67 := g7.size
      have hA8 : Cb ((w7.setRow pa (ctA ra.1 s7)).setRow ph (hapA ra.2 a8 n8)) pa ra.1 s7 := (Cb.put hA7 o7 (o7.nbs (by omega))).other (by omega) (o7.nbs (by omega)) _
      have hB8 : Cb ((w7.setRow pa (ctA ra.1 s7)).setRow ph (hapA ra.2 a8 n8)) pb cb sb := ((hB5.below g7).other (by omega) nB _).other (by omega) nBp _
      have nA8b : NBs s7 pb := o7.nbs (by omega)
      have nA8q : NBs s7 (ph + 1) := o7.nbs (by omega)
      have hp8 : ((w7.setRow pa (ctA ra.1 s7)).setRow ph (hapA ra.2 a8 n8)).heap[ph]? = some (.cells (hapA ra.2 a8 n8) 44 (0, 0)) := setRow_heap _ _ _ _ _ _ hp7
      have hq8 : ((w7.setRow pa (ctA ra.1 s7)).setRow ph (hapA ra.2 a8 n8)).heap[ph + 1]? = some (.cells hap0 44 (0, 0)) := (setRow_other _ _ _ _ (by omega)).trans ((setRow_other _ _ _ _ (by omega)).trans (bx_below hq5 g7))
      have y8 := ol_setRow (ol_setRow y7 (p := pa) (by omega) (ctA ra.1 s7)) (p := ph) (by omega) (hapA ra.2 a8 n8)
      have hW8 := ol_setNB (ol_setRow (hW5.below g7) (p := pa) (by omega) (ctA ra.1 s7)) nW1 (hapA ra.2 a8 n8)
      have b8 : Below wb.heap.size wb ((w7.setRow pa (ctA ra.1 s7)).setRow ph (hapA ra.2 a8 n8)) := below_setRow (below_setRow (bstep b5 g7) lA _) (by omega) _
      have l8 : ((w7.setRow pa (ctA ra.1 s7)).setRow ph (hapA ra.2 a8 n8)).heap.size = w7.heap.size := by simp
      clear hA5 hB5 hp5 hq5 b5 hAb hAr o7 y7 g7 hA7 hp7 hSa nA nB nBp hW5 nW1
      change Code.wp _ _ _ _ ((w7.setRow pa (ctA ra.1 s7)).setRow ph (hapA ra.2 a8 n8))
      generalize (w7.setRow pa (ctA ra.1 s7)).setRow ph (hapA ra.2 a8 n8) = w8 at *
      have hBb := hB8.box
      have hBr := hB8.r
      go_upto_block 2 with (first
        | (with_reducible refine wpList_loadR rowC rfl _ rfl _ rfl hBb rfl ?_)
        | (go_at_call 15; (with_reducible refine (hSb _ hBr).mono ?_); rintro e w9 ⟨s9, a9, n9, rfl, o9, y9, g9⟩
           have hB9 := bx_below hBb g9
           have hq9 := (setRow_other w9 pb (ph + 1) (ctA rb.1 s9) (by omega)).trans (bx_below hq8 g9))
        | (with_reducible refine wpList_storeR rowC rfl _ _ rfl _ _ rfl rfl hB9 rfl rfl (ct_ones _ _) ?_)
        | (with_reducible refine wpList_storeR rowH rfl _ _ rfl _ _ rfl rfl hq9 rfl rfl (hap_ones _ _ _) ?_))
      have l89 := g9.size
      have lB8 := hB8.lt
      have hB10 : Cb ((w9.setRow pb (ctA rb.1 s9)).setRow (ph + 1) (hapA rb.2 a9 n9)) pb rb.1 s9 := (Cb.put hB9 o9 (o9.nbs (by omega))).other (by omega) (o9.nbs (by omega)) _
      have hA10 : Cb ((w9.setRow pb (ctA rb.1 s9)).setRow (ph + 1) (hapA rb.2 a9 n9)) pa ra.1 s7 := ((hA8.below g9).other (by omega) nA8b _).other (by omega) nA8q _
      have nB10 : NBs s9 pa := o9.nbs (by omega)
      have hp10 : ((w9.setRow pb (ctA rb.1 s9)).setRow (ph + 1) (hapA rb.2 a9 n9)).heap[ph]? = some (.cells (hapA ra.2 a8 n8) 44 (0, 0)) := (setRow_other _ _ _ _ (by omega)).trans ((setRow_other _ _ _ _ (by omega)).trans (bx_below hp8 g9))
      have hq10 : ((w9.setRow pb (ctA rb.1 s9)).setRow (ph + 1) (hapA rb.2 a9 n9)).heap[ph + 1]? = some (.cells (hapA rb.2 a9 n9) 44 (0, 0)) := setRow_heap _ _ _ _ _ _ hq9
      have y10 := (ol_setRow (ol_setRow (y8.below g9) (p := pb) (by omega) (ctA rb.1 s9)) (p := ph + 1) (by omega) (hapA rb.2 a9 n9)).rl
      have z10 := (ol_setRow (ol_setRow y9 (p := pb) (by omega) (ctA rb.1 s9)) (p := ph + 1) (by omega) (hapA rb.2 a9 n9)).rl
      have hW10 := ol_setNB (ol_setRow (hW8.below g9) (p := pb) (by omega) (ctA rb.1 s9)) nW2 (hapA rb.2 a9 n9)
      have b10 : Below wb.heap.size wb ((w9.setRow pb (ctA rb.1 s9)).setRow (ph + 1) (hapA rb.2 a9 n9)) := below_setRow (below_setRow (bstep b8 g9) lB _) (by omega) _
      clear hA8 hB8 hp8 hq8 b8 hBb hBr o9 y9 g9 hB9 hq9 hSb nA8q nBq y8 hW8 nW2
      change Code.wp _ _ _ _ ((w9.setRow pb (ctA rb.1 s9)).setRow (ph + 1) (hapA rb.2 a9 n9))
      generalize (w9.setRow pb (ctA rb.1 s9)).setRow (ph + 1) (hapA rb.2 a9 n9) = w10 at *
      have hF10 := bx_below hbF b10
      have hG10 := bx_below hbG b10
      have hl110 := hl1.below b10
      have hl210 := hl2.below b10
      have HSn := hid HN.out.1
      have HSa := hid HN.out.2.1
      have HSb := hid HN.out.2.2.1
      clear HN
      rw [put_none, put_none]
      go_cut [16, 17] from 116 to 161 (fun s16 s17 wx => ∃ tn1 se1 : Nat, s16 = .int .i64 (tn1 : Int) ∧ s17 = .int .i64 (se1 : Int) ∧ Below w10.heap.size w10 wx ∧ Hid (tn1 = tn + (if i = P + 13 + (Q + 8) then 1 else 0) ∧ se1 = se + (if i = P + 9 then 1 else 0)))
      case first =>
        clear hW10 hA10 hB10 hq10 z10 HSn HSb HT HC b10
        by_cases eS : i = P + 9
        · have t1 : ((i : Int) == (N1 : Int) - 1) = true := by have := HK.out; simp; omega
          have h2 : ra.2 = (1, F) := by rw [HSa.out, if_pos eS]
          rw [h2, HF.out] at hp10 y10
          have S1 : Calls Try.prog 18 #[.agg #[.int .u32 (i1 : Int), .bool e1, .bool r1, .int .u8 (d1 : Int), .slice a8 l1.length n8], .agg #[.int .u32 (i1 : Int), .bool e1, .bool r1, .int .u8 (d1 : Int), .slice a1 l1.length c1]] w10 fun e w' => e = .returned (.bool true) ∧ Below w10.heap.size w10 w' := by
            have k := sameFrame_any w10 i1 e1 r1 d1 a8 l1.length n8 l1 i1 e1 r1 d1 a1 l1.length c1 l1 y10 hl110
            rw [decide_eq_true rfl] at k
            exact k
          obtain ⟨m0, m1, m2, m3, m4, m5⟩ := hap_cells hp10 (kI := 1) rfl
          obtain ⟨k0, k1, k2, k3, k4⟩ := bx5 hF10
          have HE := hid (show tn = tn + (if i = P + 13 + (Q + 8) then 1 else 0) ∧ se + 1 = se + (if i = P + 9 then 1 else 0) from ⟨by rw [if_neg (by omega), Nat.add_zero], by rw [if_pos eS]⟩)
          clear h2 eS hp10 y10 HSa hF10 hG10
          go_wp2_with (go_at_call 18; (with_reducible refine S1.mono ?_); rintro e w11 ⟨rfl, g11⟩)
          go_meet
          exact ⟨tn, se + 1, rfl, by go_num, g11, HE⟩
        · by_cases eT : i = P + 13 + (Q + 8)
          · have t1 : ((i : Int) == (N1 : Int) + 3 + (N2 : Int) - 2) = true := by have := HK.out; simp; omega
            have h2 : ra.2 = (2, G) := by rw [HSa.out, if_neg eS, if_pos eT]
            rw [h2, HG.out] at hp10 y10
            have S1 : Calls Try.prog 18 #[.agg #[.int .u32 (i2 : Int), .bool e2, .bool r2, .int .u8 (d2 : Int), .slice a8 l2.length n8], .agg #[.int .u32 (i2 : Int), .bool e2, .bool r2, .int .u8 (d2 : Int), .slice a2 l2.length c2]] w10 fun e w' => e = .returned (.bool true) ∧ Below w10.heap.size w10 w' := by
              have k := sameFrame_any w10 i2 e2 r2 d2 a8 l2.length n8 l2 i2 e2 r2 d2 a2 l2.length c2 l2 y10 hl210
              rw [decide_eq_true rfl] at k
              exact k
            obtain ⟨m0, m1, m2, m3, m4, m5⟩ := hap_cells hp10 (kI := 2) rfl
            obtain ⟨k0, k1, k2, k3, k4⟩ := bx5 hG10
            have HE := hid (show tn + 1 = tn + (if i = P + 13 + (Q + 8) then 1 else 0) ∧ se = se + (if i = P + 9 then 1 else 0) from ⟨by rw [if_pos eT], by rw [if_neg eS, Nat.add_zero]⟩)
            clear h2 eS eT hp10 y10 HSa hF10 hG10
            go_wp2_with (go_at_call 18; (with_reducible refine S1.mono ?_); rintro e w11 ⟨rfl, g11⟩)
            go_meet
            exact ⟨tn + 1, se, by go_num, rfl, g11, HE⟩
          · have h2 : ra.2 = (0, zeroFr) := by rw [HSa.out, if_neg eS, if_neg eT]; rfl
            rw [h2] at hp10
            obtain ⟨m0, m1, m2, m3, m4, m5⟩ := hap_cells hp10 (kI := 0) rfl
            have HE := hid (show tn = tn + (if i = P + 13 + (Q + 8) then 1 else 0) ∧ se = se + (if i = P + 9 then 1 else 0) from ⟨by rw [if_neg eT, Nat.add_zero], by rw [if_neg eS, Nat.add_zero]⟩)
            clear h2 eS eT hp10 y10 HSa hF10 hG10 m1 m2 m3 m4 m5
            go_wp2_with fail
            go_meet
            exact ⟨tn, se, rfl, rfl, Below.refl _ _, HE⟩
      case rest =>
      clear hp10 y10 HSa
      obtain ⟨tn1, se1, rfl, rfl, gc, HC2⟩ := hcut
      have bt1 : tn1 ≤ 3 := by have := HC2.out.1; split at this <;> omega
      have bs1 : se1 ≤ 3 := by have := HC2.out.2; split at this <;> omega
      have hA11 := hA10.below gc
      have hB11 := hB10.below gc
      have hW11 := hW10.below gc
      have hq11 := bx_below hq10 gc
      have z11 := z10.below gc
      have hF11 := bx_below hF10 gc
      have hG11 := bx_below hG10 gc
      have hl111 := hl110.below gc
      have hl211 := hl210.below gc
      have b11 := bstep b10 gc
      clear hA10 hB10 hW10 hq10 z10 hF10 hG10 hl110 hl210 b10 gc HT
      by_cases eL : i = d
      · have h2 : rb.2 = (3, zeroFr) := by rw [HSb.out, if_pos eL]
        have t1 : ((lo : Int) == 0) = true := by have := HC.out.1; rw [if_neg (by omega)] at this; subst this; rfl
        have t2 : i < 40 := by have := HK.out; omega
        rw [h2] at hq11
        obtain ⟨m0, m1, m2, m3, m4, m5⟩ := hap_cells hq11 (kI := 3) rfl
        obtain ⟨⟨z1, z2, z3⟩, HE2⟩ := two_cnt HC.out HC2.out (lo2 := lo + 1) (tn2 := tn1) (se2 := se1) (d := d) ⟨by rw [if_pos eL], by rw [if_neg (by have := HK.out; omega), Nat.add_zero], by rw [if_neg (by have := HK.out; omega), Nat.add_zero]⟩
        have HE := hid HE2
        clear HE2 h2 eL hq11 HSb HC HC2 hF11 hG11 z11 m1 m2 m3 m4 m5
        go_wp2
        go_roundg (M - (i + 1))
        case measure => go_light; omega
        case rel => go_light; exact ⟨i + 1, ra.1, rb.1, s7, s9, lo + 1, tn1, se1, by omega, rfl, by go_num, by go_num, rfl, rfl, z1, z2, z3, hA11, hB11, nA8b, nB10, hW11, b11, HSn, HE⟩
      by_cases eT : i = P + 8
      · have h2 : rb.2 = (2, F) := by rw [HSb.out, if_neg eL, if_pos eT]
        have t1 : ((i : Int) == (N1 : Int) - 2) = true := by have := HK.out; simp; omega
        rw [h2, HF.out] at hq11 z11
        have S1 : Calls Try.prog 18 #[.agg #[.int .u32 (i1 : Int), .bool e1, .bool r1, .int .u8 (d1 : Int), .slice a9 l1.length n9], .agg #[.int .u32 (i1 : Int), .bool e1, .bool r1, .int .u8 (d1 : Int), .slice a1 l1.length c1]] wc fun e w' => e = .returned (.bool true) ∧ Below wc.heap.size wc w' := by
          have k := sameFrame_any wc i1 e1 r1 d1 a9 l1.length n9 l1 i1 e1 r1 d1 a1 l1.length c1 l1 z11 hl111
          rw [decide_eq_true rfl] at k
          exact k
        obtain ⟨m0, m1, m2, m3, m4, m5⟩ := hap_cells hq11 (kI := 2) rfl
        obtain ⟨k0, k1, k2, k3, k4⟩ := bx5 hF11
        obtain ⟨⟨z1, z2, z3⟩, HE2⟩ := two_cnt HC.out HC2.out (lo2 := lo) (tn2 := tn1 + 1) (se2 := se1) (d := d) ⟨by rw [if_neg eL, Nat.add_zero], by rw [if_pos eT], by rw [if_neg (by have := HK.out; omega), Nat.add_zero]⟩
        have HE := hid HE2
        clear HE2 h2 eL eT hq11 HSb HC HC2 hF11 hG11 z11
        go_wp2_with (go_at_call 18; (with_reducible refine S1.mono ?_); rintro e w12 ⟨rfl, g12⟩)
        go_roundg (M - (i + 1))
        case measure => go_light; omega
        case rel => go_light; exact ⟨i + 1, ra.1, rb.1, s7, s9, lo, tn1 + 1, se1, by omega, rfl, by go_num, rfl, by go_num, rfl, z1, z2, z3, hA11.below g12, hB11.below g12, nA8b, nB10, hW11.below g12, bstep b11 g12, HSn, HE⟩
      by_cases eS : i = P + 13 + (Q + 9)
      · have h2 : rb.2 = (1, G) := by rw [HSb.out, if_neg eL, if_neg eT, if_pos eS]
        have t1 : ((i : Int) == (N1 : Int) + 3 + (N2 : Int) - 1) = true := by have := HK.out; simp; omega
        rw [h2, HG.out] at hq11 z11
        have S1 : Calls Try.prog 18 #[.agg #[.int .u32 (i2 : Int), .bool e2, .bool r2, .int .u8 (d2 : Int), .slice a9 l2.length n9], .agg #[.int .u32 (i2 : Int), .bool e2, .bool r2, .int .u8 (d2 : Int), .slice a2 l2.length c2]] wc fun e w' => e = .returned (.bool true) ∧ Below wc.heap.size wc w' := by
          have k := sameFrame_any wc i2 e2 r2 d2 a9 l2.length n9 l2 i2 e2 r2 d2 a2 l2.length c2 l2 z11 hl211
          rw [decide_eq_true rfl] at k
          exact k
        obtain ⟨m0, m1, m2, m3, m4, m5⟩ := hap_cells hq11 (kI := 1) rfl
        obtain ⟨k0, k1, k2, k3, k4⟩ := bx5 hG11
        obtain ⟨⟨z1, z2, z3⟩, HE2⟩ := two_cnt HC.out HC2.out (lo2 := lo) (tn2 := tn1) (se2 := se1 + 1) (d := d) ⟨by rw [if_neg eL, Nat.add_zero], by rw [if_neg eT, Nat.add_zero], by rw [if_pos eS]⟩
        have HE := hid HE2
        clear HE2 h2 eL eT eS hq11 HSb HC HC2 hF11 hG11 z11
        go_wp2_with (go_at_call 18; (with_reducible refine S1.mono ?_); rintro e w12 ⟨rfl, g12⟩)
        go_roundg (M - (i + 1))
        case measure => go_light; omega
        case rel => go_light; exact ⟨i + 1, ra.1, rb.1, s7, s9, lo, tn1, se1 + 1, by omega, rfl, by go_num, rfl, rfl, by go_num, z1, z2, z3, hA11.below g12, hB11.below g12, nA8b, nB10, hW11.below g12, bstep b11 g12, HSn, HE⟩
      have h2 : rb.2 = (0, zeroFr) := by rw [HSb.out, if_neg eL, if_neg eT, if_neg eS]; rfl
      rw [h2] at hq11
      obtain ⟨m0, m1, m2, m3, m4, m5⟩ := hap_cells hq11 (kI := 0) rfl
      obtain ⟨⟨z1, z2, z3⟩, HE2⟩ := two_cnt HC.out HC2.out (lo2 := lo) (tn2 := tn1) (se2 := se1) (d := d) ⟨by rw [if_neg eL, Nat.add_zero], by rw [if_neg eT, Nat.add_zero], by rw [if_neg eS, Nat.add_zero]⟩
      have HE := hid HE2
      clear HE2 h2 eL eT eS hq11 HSb HC HC2 hF11 hG11 z11 m1 m2 m3 m4 m5
      go_wp2
      go_roundg (M - (i + 1))
      case measure => go_light; omega
      case rel => go_light; exact ⟨i + 1, ra.1, rb.1, s7, s9, lo, tn1, se1, by omega, rfl, by go_num, rfl, rfl, rfl, z1, z2, z3, hA11, hB11, nA8b, nB10, hW11, b11, HSn, HE⟩
    · obtain rfl : i = M := by omega
      have HL := hid (show lo = 1 ∧ tn = 2 ∧ se = 2 by
        obtain ⟨k1, k2, k3⟩ := HC.out
        obtain ⟨k4, k5, k6, k7, k8, k9, k10⟩ := HK.out
        rw [if_pos (by omega)] at k1
        rw [if_pos (by omega), if_pos (by omega)] at k2 k3
        exact ⟨k1, k2, k3⟩)
      clear HC HS HT hA hB nA nB hW
      have HX := hid hexit
      clear hexit
      go_wp2
      with_reducible apply HX.out
      · exact HL.out.1
      · exact HL.out.2.1
      · exact HL.out.2.2
      · exact hbel
end Go.Proofs.Ytaagfaidjihjcaa
