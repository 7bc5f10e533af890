/-
  The walk of the statement CtlTwins: its second loop.
-/
import Derived.Test.YtaagfaidjihjcaaM8m
import Derived.Test.YtaagfaidjihjcaaCtlTwoLoop
namespace Go.Proofs.Ytaagfaidjihjcaa
open Go.RowKit Go.Sort
set_option linter.unusedVariables false

theorem keep_if {d i : Nat} {t : Int} (h : t = if d < i then (d : Int) else -1) (hn : i ≠ d) : t = if d < i + 1 then (d : Int) else -1 := by
  subst h
  by_cases h : d < i
  · rw [if_pos h, if_pos (by omega)]
  · rw [if_neg h, if_neg (by omega)]
theorem new_if {d i : Nat} (h : i = d) : (i : Int) = if d < i + 1 then (d : Int) else -1 := by rw [if_pos (by omega)]; omega

/-- The loops of a text, one behind the other. -/
def loopsOf : Code → List Code
  | .loop c => [.loop c]
  | .seq a b => loopsOf a ++ loopsOf b
  | .block _ c => loopsOf c
  | .scope c => loopsOf c
  | .cond _ a b => loopsOf a ++ loopsOf b
  | _ => []
noncomputable def twinsLoop : Code := ((((Try.f9.body.map loopsOf).getD [])[1]?).getD .skip)

set_option maxRecDepth 1000000 in
set_option maxHeartbeats 16000000 in
theorem ctlTwins_loop {v0 v1 v2 v3 v4 v6 v8 v10 v12 v16 v17 v18 v19 v20 v21 v22 v23 v24 v25 v26 v27 v28 v29 v30 v31 v32 v33 v34 v35 v36 v37 v38 v39 v40 v41 v42 v43 v44 v45 v46 v47 v48 v49 v50 v51 v52 v53 v54 v55 v56 v57 v58 v59 v60 v61 v62 v63 v64 v65 v66 v67 v68 v69 v70 v71 v72 v73 v74 v75 v76 v77 v78 v79 v80 v81 v82 v83 v84 v85 v86 v87 v88 v89 v90 v91 v92 v93 v94 v95 v96 v97 v98 v99 v100 v101 v102 v103 v104 v105 v106 v107 v108 v109 v110 v111 v112 v113 v114 v115 v116 v117 v120 v121 v122 v123 v124 v125 v126 v127 v128 v129 v130 v131 v132 v133 v134 v135 v136 v137 v138 v139 v140 v141 v142 v143 v144 v145 v146 v147 v148 v149 v150 v151 v152 v153 v154 v155 v156 v157 v158 v159 v160 v161 v162 v163 v164 v165 v166 v167 v168 v169 v170 v171 v172 v173 v174 v175 v176 v177 v178 v179 v180 v181 v182 v183 v184 v185 v186 v187 v188 v189 v190 v191 v192 v193 v194 v195 v196 v197 v198 v199 v200 v201 v202 v203 v204 v205 v206 v207 v208 v209 v210 v211 v212 v213 v214 v215 v216 v217 v218 v219 v220 v221 v222 v223 v224 v225 v226 v227 v228 v229 v230 v231 v232 v233 v234 v235 v236 v237 v238 v239 v240 v241 v242 v243 v244 v245 v246 v247 v248 v249 v250 v251 v252 v253 v254 : Value} {pa pb : Nat} {a5 a7 : Option Addr} {N1 N2 c5 c7 d D : Nat} {Q0 : Exit → Act → World → Prop} {w7 : World}
    (e : Nat) (W V : List Bool) (sw : Bool) (s2 s4 : Sl) (ca0 cb0 : Ct) (wb : World) (T : Nat → Ct → Ct → Prop)
    (bN1 : N1 ≤ 160) (bN2 : N2 ≤ 160) (hd1 : d + 1 < N1) (hd2 : d + 1 < N2) (hde : d < e) (hde5 : e ≤ d + 5)
    (HK : Hid (D = d + 60 ∧ W[d]? = some (!sw) ∧ V[d]? = some sw))
    (HT : Hid (∀ (i : Nat) (ca cb : Ct), i ≤ e + 17 → T i ca cb → (StepOK ca ∧ StepOK cb) ∧ T (i + 1) (stC ca (dvC ca && dvC cb)).1 (stC cb (dvC ca && dvC cb)).1 ∧
      (if sw then (stC cb (dvC ca && dvC cb)).2 else (stC ca (dvC ca && dvC cb)).2) = (if i = d then (4, zeroFr) else noH) ∧
      (if sw then (stC ca (dvC ca && dvC cb)).2 else (stC cb (dvC ca && dvC cb)).2) = (if i = e then (4, zeroFr) else noH)))
    (HP : Hid (∀ (i : Nat) (ca cb : Ct), 1 ≤ i → i ≤ e + 17 → T i ca cb → ca.ph ≠ 0 ∧ cb.ph ≠ 0))
    (HE : Hid (∀ (ca cb : Ct), T (e + 18) ca cb → (ca.ph = 0 ∧ ca.has = true ∧ ca.cf = cfT 8) ∧ (cb.ph = 0 ∧ cb.has = true ∧ cb.cf = cfT 8)))
    (HS : Hid (T 0 ca0 cb0)) (hW : RL .bool wb a5 N1 c5 W) (hV : RL .bool wb a7 N2 c7 V)
    (lA : wb.heap.size ≤ pa) (lB : wb.heap.size ≤ pb) (lAB : pa < pb)
    (CA : Cb w7 pa ca0 s2) (CB : Cb w7 pb cb0 s4) (NA : NBs s2 pb) (NB : NBs s4 pa) (gg7 : Below wb.heap.size wb w7)
    (hQP : ∀ (c : List PanicEntry) (a a' : Act) (w : World), Q0 (.panic c) a w → Q0 (.panic c) a' w)
    (hexit : ∀ (z14 z15 z16 z17 z18 z19 z20 z21 z119 z120 z121 z122 z123 z124 z125 z126 z127 z128 z129 z130 z131 z132 z133 z134 z135 z136 z137 z138 z139 z140 z141 z142 z143 z144 z145 z146 z147 z148 z149 z150 z151 z152 z153 z154 z155 z156 z157 z158 z159 z160 z161 z162 z163 z164 z165 z166 z167 z168 z169 z170 z171 z172 z173 z174 z175 z176 z177 z178 z179 z180 z181 z182 z183 z184 z185 z186 z187 z188 z189 z190 z191 z192 z193 z194 z195 z196 z197 z198 z199 z200 z201 z202 z203 z204 z205 z206 z207 z208 z209 z210 z211 z212 z213 z214 z215 z216 z217 z218 z219 z220 z221 z222 z223 z224 z225 z226 z227 z228 z229 z230 z231 z232 z233 z234 z235 z236 z237 z238 z239 z240 z241 z242 z243 z244 z245 z246 z247 z248 z249 z250 z251 z252 z253 z254 : Value) (w : World), Below wb.heap.size wb w → Q0 .ret ⟨List.toArray (v0 :: v1 :: v2 :: v3 :: .bool true :: .slice a5 N1 c5 :: v6 :: .slice a7 N2 c7 :: v8 :: .pointer (some ⟨pa, 0, none⟩) :: v10 :: .pointer (some ⟨pb, 0, none⟩) :: v12 :: .int .i64 (d : Int) :: z14 :: z15 :: z16 :: z17 :: z18 :: z19 :: z20 :: z21 :: v22 :: v23 :: v24 :: v25 :: v26 :: v27 :: v28 :: v29 :: v30 :: v31 :: v32 :: v33 :: v34 :: v35 :: v36 :: v37 :: v38 :: v39 :: v40 :: v41 :: v42 :: v43 :: v44 :: v45 :: v46 :: v47 :: v48 :: v49 :: v50 :: v51 :: v52 :: v53 :: v54 :: v55 :: v56 :: v57 :: v58 :: v59 :: v60 :: v61 :: v62 :: v63 :: v64 :: v65 :: v66 :: v67 :: v68 :: v69 :: v70 :: v71 :: v72 :: v73 :: v74 :: v75 :: v76 :: v77 :: v78 :: v79 :: v80 :: v81 :: v82 :: v83 :: v84 :: v85 :: v86 :: v87 :: v88 :: v89 :: v90 :: v91 :: v92 :: v93 :: v94 :: v95 :: v96 :: v97 :: v98 :: v99 :: v100 :: v101 :: v102 :: v103 :: v104 :: v105 :: v106 :: v107 :: v108 :: v109 :: v110 :: v111 :: v112 :: v113 :: v114 :: v115 :: v116 :: v117 :: .int .i64 (D : Int) :: z119 :: z120 :: z121 :: z122 :: z123 :: z124 :: z125 :: z126 :: z127 :: z128 :: z129 :: z130 :: z131 :: z132 :: z133 :: z134 :: z135 :: z136 :: z137 :: z138 :: z139 :: z140 :: z141 :: z142 :: z143 :: z144 :: z145 :: z146 :: z147 :: z148 :: z149 :: z150 :: z151 :: z152 :: z153 :: z154 :: z155 :: z156 :: z157 :: z158 :: z159 :: z160 :: z161 :: z162 :: z163 :: z164 :: z165 :: z166 :: z167 :: z168 :: z169 :: z170 :: z171 :: z172 :: z173 :: z174 :: z175 :: z176 :: z177 :: z178 :: z179 :: z180 :: z181 :: z182 :: z183 :: z184 :: z185 :: z186 :: z187 :: z188 :: z189 :: z190 :: z191 :: z192 :: z193 :: z194 :: z195 :: z196 :: z197 :: z198 :: z199 :: z200 :: z201 :: z202 :: z203 :: z204 :: z205 :: z206 :: z207 :: z208 :: z209 :: z210 :: z211 :: z212 :: z213 :: z214 :: z215 :: z216 :: z217 :: z218 :: z219 :: z220 :: z221 :: z222 :: z223 :: z224 :: z225 :: z226 :: z227 :: z228 :: z229 :: z230 :: z231 :: z232 :: z233 :: z234 :: z235 :: z236 :: z237 :: z238 :: z239 :: z240 :: z241 :: z242 :: z243 :: z244 :: z245 :: z246 :: z247 :: z248 :: z249 :: z250 :: z251 :: z252 :: z253 :: z254 :: []), []⟩ w) :
    Code.wp Try.prog twinsLoop Q0 ⟨List.toArray (v0 :: v1 :: v2 :: v3 :: v4 :: .slice a5 N1 c5 :: v6 :: .slice a7 N2 c7 :: v8 :: .pointer (some ⟨pa, 0, none⟩) :: v10 :: .pointer (some ⟨pb, 0, none⟩) :: v12 :: .int .i64 (d : Int) :: .int .i64 (-1) :: .int .i64 (-1) :: v16 :: v17 :: v18 :: v19 :: v20 :: v21 :: v22 :: v23 :: v24 :: v25 :: v26 :: v27 :: v28 :: v29 :: v30 :: v31 :: v32 :: v33 :: v34 :: v35 :: v36 :: v37 :: v38 :: v39 :: v40 :: v41 :: v42 :: v43 :: v44 :: v45 :: v46 :: v47 :: v48 :: v49 :: v50 :: v51 :: v52 :: v53 :: v54 :: v55 :: v56 :: v57 :: v58 :: v59 :: v60 :: v61 :: v62 :: v63 :: v64 :: v65 :: v66 :: v67 :: v68 :: v69 :: v70 :: v71 :: v72 :: v73 :: v74 :: v75 :: v76 :: v77 :: v78 :: v79 :: v80 :: v81 :: v82 :: v83 :: v84 :: v85 :: v86 :: v87 :: v88 :: v89 :: v90 :: v91 :: v92 :: v93 :: v94 :: v95 :: v96 :: v97 :: v98 :: v99 :: v100 :: v101 :: v102 :: v103 :: v104 :: v105 :: v106 :: v107 :: v108 :: v109 :: v110 :: v111 :: v112 :: v113 :: v114 :: v115 :: v116 :: v117 :: .int .i64 (D : Int) :: .int .i64 0 :: v120 :: v121 :: v122 :: v123 :: v124 :: v125 :: v126 :: v127 :: v128 :: v129 :: v130 :: v131 :: v132 :: v133 :: v134 :: v135 :: v136 :: v137 :: v138 :: v139 :: v140 :: v141 :: v142 :: v143 :: v144 :: v145 :: v146 :: v147 :: v148 :: v149 :: v150 :: v151 :: v152 :: v153 :: v154 :: v155 :: v156 :: v157 :: v158 :: v159 :: v160 :: v161 :: v162 :: v163 :: v164 :: v165 :: v166 :: v167 :: v168 :: v169 :: v170 :: v171 :: v172 :: v173 :: v174 :: v175 :: v176 :: v177 :: v178 :: v179 :: v180 :: v181 :: v182 :: v183 :: v184 :: v185 :: v186 :: v187 :: v188 :: v189 :: v190 :: v191 :: v192 :: v193 :: v194 :: v195 :: v196 :: v197 :: v198 :: v199 :: v200 :: v201 :: v202 :: v203 :: v204 :: v205 :: v206 :: v207 :: v208 :: v209 :: v210 :: v211 :: v212 :: v213 :: v214 :: v215 :: v216 :: v217 :: v218 :: v219 :: v220 :: v221 :: v222 :: v223 :: v224 :: v225 :: v226 :: v227 :: v228 :: v229 :: v230 :: v231 :: v232 :: v233 :: v234 :: v235 :: v236 :: v237 :: v238 :: v239 :: v240 :: v241 :: v242 :: v243 :: v244 :: v245 :: v246 :: v247 :: v248 :: v249 :: v250 :: v251 :: v252 :: v253 :: v254 :: []), []⟩ w7 := by
  conv => arg 2; whnf
  go_loopg [14, 15, 119] (e + 18) (fun gn s14 s15 idx wr => ∃ (i : Nat) (ca cb : Ct) (sa sb : Sl) (tl ot : Int), i ≤ e + 17 ∧ gn = e + 18 - i ∧ idx = .int .i64 (i : Int) ∧ s14 = .int .i64 tl ∧ s15 = .int .i64 ot ∧ -1 ≤ tl ∧ tl ≤ 400 ∧ -1 ≤ ot ∧ ot ≤ 400 ∧
    Cb wr pa ca sa ∧ Cb wr pb cb sb ∧ NBs sa pb ∧ NBs sb pa ∧ Below wb.heap.size wb wr ∧ Hid (T i ca cb) ∧ Hid (tl = (if d < i then (d : Int) else -1) ∧ ot = (if e < i then (e : Int) else -1)))
  case atStart => exact ⟨0, ca0, cb0, s2, s4, -1, -1, by omega, by omega, rfl, rfl, rfl, by omega, by omega, by omega, by omega, CA, CB, NA, NB, gg7, HS, hid ⟨by simp, by simp⟩⟩
  case round =>
    clear CA CB NA NB gg7 HS
    obtain ⟨i, ca, cb, sa, sb, tl, ot, hik, rfl, rfl, rfl, rfl, btl, btl2, bot, bot2, hA, hB, nA, nB, hbel, HS, HC⟩ := hrel
    have HX0 := hid hexit
    clear hexit
    have hiD : i < D := by have := HK.out.1; omega
    obtain ⟨⟨hokA, hokB⟩, hst⟩ := HT.out i ca cb hik HS.out
    have hDa := fun (w2 : World) (h1 : CtR w2 ca sa) => drive_any w2 ca sa h1 hokA.ph (fun e1 e2 => (hokA.sn e1 e2).pos)
    have hDb := fun (w2 : World) (h1 : CtR w2 cb sb) => drive_any w2 cb sb h1 hokB.ph (fun e1 e2 => (hokB.sn e1 e2).pos)
    obtain ⟨x, hx⟩ : ∃ x, x = (dvC ca && dvC cb) := ⟨_, rfl⟩
    rw [← hx] at hst
    have hSa := fun (w2 : World) (h1 : CtR w2 ca sa) => step_any w2 ca sa x h1 hokA
    have hSb := fun (w2 : World) (h1 : CtR w2 cb sb) => step_any w2 cb sb x h1 hokB
    have HN := hid hst
    generalize stC ca x = ra at hSa HN
    generalize stC cb x = rb at hSb HN
    generalize dvC ca = va at hDa hx
    generalize dvC cb = vb at hDb hx
    have HX := hid hx
    clear hst hokA hokB hx HS
    go_upto_region 21 with fail
    go_cut [17] from 122 to 127 (fun s17 wx => s17 = .bool x ∧ Below wr.heap.size wr wx)
    case first =>
      have hAb := hA.box
      have hAr := hA.r
      cases va
      · obtain rfl : x = false := by rw [HX.out]; rfl
        clear HX HN hSa hSb hDb
        go_wp2_with (first
          | (with_reducible refine wpList_loadR rowC rfl _ rfl pa rfl hAb rfl ?_)
          | (go_at_call 13; (with_reducible refine (hDa _ hAr).mono ?_); rintro e w4 ⟨rfl, g4⟩))
        go_meet
        exact ⟨rfl, g4⟩
      · obtain rfl : x = vb := by rw [HX.out]; rfl
        clear HX HN hSa hSb
        go_wp2_with (first
          | (with_reducible refine wpList_loadR rowC rfl _ rfl pa rfl hAb rfl ?_)
          | (go_at_call 13; (with_reducible refine (hDa _ hAr).mono ?_); rintro e w4 ⟨rfl, g4⟩; have hBb := (hB.below g4).box; have hBr := (hB.below g4).r)
          | (with_reducible refine wpList_loadW rowC (by simp [Region.wanted, yielded, Act.put]) _ rfl pb rfl hBb rfl ?_)
          | (go_at_call 13; (with_reducible refine (hDb _ hBr).mono ?_); rintro e w5 ⟨rfl, g5⟩))
        go_meet
        exact ⟨rfl, bstep g4 g5⟩
    case rest =>
    obtain ⟨rfl, gc⟩ := hcut
    have hA5 := hA.below gc
    have hB5 := hB.below gc
    have b5 := bstep hbel gc
    clear hA hB hbel gc hDa hDb HX
    have hAb := hA5.box
    have hAr := hA5.r
    have lpa := hA5.lt
    have lpb := hB5.lt
    go_upto_region 23 with (first
      | (with_reducible refine wpList_loadR rowC rfl _ rfl _ rfl hAb rfl ?_)
      | (go_at_call 15; (with_reducible refine (hSa _ hAr).mono ?_); rintro e w7 ⟨s7, a8, n8, rfl, o7, y7, g7⟩
         have hz1 := bx_alloc (.cells hap0 44) (heap_alloc_new w7 (.cells ctZ 37))
         have hz2 : ((w7.alloc (.cells ctZ 37)).alloc (.cells hap0 44)).heap[w7.heap.size + 1]? = some (.cells hap0 44 (0, 0)) := by
           have := heap_alloc_new (w7.alloc (.cells ctZ 37)) (.cells hap0 44); rwa [heap_size_alloc] at this
         have hz3 := (setRow_other ((w7.alloc (.cells ctZ 37)).alloc (.cells hap0 44)) w7.heap.size (w7.heap.size + 1) (ctA ra.1 s7) (by omega)).trans hz2)
      | (with_reducible refine wpList_storeR rowC rfl _ _ rfl _ _ rfl rfl hz1 rfl rfl (ct_ones _ _) ?_)
      | (with_reducible refine wpList_storeR rowH rfl _ _ rfl _ _ rfl rfl hz3 rfl rfl (hap_ones _ _ _) ?_))
    have l57 := g7.size
    have nA7a : NBs s7 pa := o7.nbs (by omega)
    have nA7b : NBs s7 pb := o7.nbs (by omega)
    have nA72 : NBs s7 (w7.heap.size + 1) := o7.fresh (by omega)
    have nA6 : NBs sa w7.heap.size := (hA5.below g7).o.fresh (Nat.le_refl _)
    have nA62 : NBs sa (w7.heap.size + 1) := (hA5.below g7).o.fresh (by omega)
    have nB6 : NBs sb w7.heap.size := (hB5.below g7).o.fresh (Nat.le_refl _)
    have nB62 : NBs sb (w7.heap.size + 1) := (hB5.below g7).o.fresh (by omega)
    have hX8 : Cb ((((w7.alloc (.cells ctZ 37)).alloc (.cells hap0 44)).setRow w7.heap.size (ctA ra.1 s7)).setRow (w7.heap.size + 1) (hapA ra.2 a8 n8)) w7.heap.size ra.1 s7 :=
      (Cb.put (c := c0) (s := sl0) hz1 ((o7.alloc _).alloc _) (o7.fresh (Nat.le_refl _))).other (by omega) nA72 _
    have hp8 : ((((w7.alloc (.cells ctZ 37)).alloc (.cells hap0 44)).setRow w7.heap.size (ctA ra.1 s7)).setRow (w7.heap.size + 1) (hapA ra.2 a8 n8)).heap[w7.heap.size + 1]? = some (.cells (hapA ra.2 a8 n8) 44 (0, 0)) := setRow_heap _ _ _ _ _ _ hz3
    have hA8 : Cb ((((w7.alloc (.cells ctZ 37)).alloc (.cells hap0 44)).setRow w7.heap.size (ctA ra.1 s7)).setRow (w7.heap.size + 1) (hapA ra.2 a8 n8)) pa ca sa := ((((hA5.below g7).alloc _).alloc _).other (by omega) nA6 _).other (by omega) nA62 _
    have hB8 : Cb ((((w7.alloc (.cells ctZ 37)).alloc (.cells hap0 44)).setRow w7.heap.size (ctA ra.1 s7)).setRow (w7.heap.size + 1) (hapA ra.2 a8 n8)) pb cb sb := ((((hB5.below g7).alloc _).alloc _).other (by omega) nB6 _).other (by omega) nB62 _
    have b8 : Below wb.heap.size wb ((((w7.alloc (.cells ctZ 37)).alloc (.cells hap0 44)).setRow w7.heap.size (ctA ra.1 s7)).setRow (w7.heap.size + 1) (hapA ra.2 a8 n8)) := below_setRow (below_setRow (bnew (bnew (bstep b5 g7) _) _) (by omega) _) (by omega) _
    have l8 : ((((w7.alloc (.cells ctZ 37)).alloc (.cells hap0 44)).setRow w7.heap.size (ctA ra.1 s7)).setRow (w7.heap.size + 1) (hapA ra.2 a8 n8)).heap.size = w7.heap.size + 2 := by simp
    have nA71 := nA72
    clear hA5 hB5 b5 hAb hAr o7 y7 g7 hz1 hz2 hz3 hSa nA72 nA6 nA62 nB6 nB62
    rw [put_none, put_none]
    generalize (((w7.alloc (.cells ctZ 37)).alloc (.cells hap0 44)).setRow w7.heap.size (ctA ra.1 s7)).setRow (w7.heap.size + 1) (hapA ra.2 a8 n8) = w8 at *
    have q1 : pa < w7.heap.size := by omega
    have q2 : pb < w7.heap.size := by omega
    clear l57 lpa lpb
    generalize w7.heap.size = g1 at *
    have hBb := hB8.box
    have hBr := hB8.r
    go_upto_region 24 with (first
      | (with_reducible refine wpList_loadR rowC rfl _ rfl _ rfl hBb rfl ?_)
      | (go_at_call 15; (with_reducible refine (hSb _ hBr).mono ?_); rintro e w9 ⟨s9, a9, n9, rfl, o9, y9, g9⟩
         have hz1 := bx_alloc (.cells hap0 44) (heap_alloc_new w9 (.cells ctZ 37))
         have hz2 : ((w9.alloc (.cells ctZ 37)).alloc (.cells hap0 44)).heap[w9.heap.size + 1]? = some (.cells hap0 44 (0, 0)) := by
           have := heap_alloc_new (w9.alloc (.cells ctZ 37)) (.cells hap0 44); rwa [heap_size_alloc] at this
         have hz3 := (setRow_other ((w9.alloc (.cells ctZ 37)).alloc (.cells hap0 44)) w9.heap.size (w9.heap.size + 1) (ctA rb.1 s9) (by omega)).trans hz2)
      | (with_reducible refine wpList_storeR rowC rfl _ _ rfl _ _ rfl rfl hz1 rfl rfl (ct_ones _ _) ?_)
      | (with_reducible refine wpList_storeR rowH rfl _ _ rfl _ _ rfl rfl hz3 rfl rfl (hap_ones _ _ _) ?_))
    have l89 := g9.size
    have nB9a : NBs s9 pa := o9.nbs (by omega)
    have nB9b : NBs s9 pb := o9.nbs (by omega)
    have nB92 : NBs s9 (w9.heap.size + 1) := o9.fresh (by omega)
    have nA9 : NBs sa w9.heap.size := (hA8.below g9).o.fresh (Nat.le_refl _)
    have nA92 : NBs sa (w9.heap.size + 1) := (hA8.below g9).o.fresh (by omega)
    have nBx : NBs sb w9.heap.size := (hB8.below g9).o.fresh (Nat.le_refl _)
    have nBx2 : NBs sb (w9.heap.size + 1) := (hB8.below g9).o.fresh (by omega)
    have nX9 : NBs s7 w9.heap.size := (hX8.below g9).o.fresh (Nat.le_refl _)
    have nX92 : NBs s7 (w9.heap.size + 1) := (hX8.below g9).o.fresh (by omega)
    have hY10 : Cb ((((w9.alloc (.cells ctZ 37)).alloc (.cells hap0 44)).setRow w9.heap.size (ctA rb.1 s9)).setRow (w9.heap.size + 1) (hapA rb.2 a9 n9)) w9.heap.size rb.1 s9 :=
      (Cb.put (c := c0) (s := sl0) hz1 ((o9.alloc _).alloc _) (o9.fresh (Nat.le_refl _))).other (by omega) nB92 _
    have hq10 : ((((w9.alloc (.cells ctZ 37)).alloc (.cells hap0 44)).setRow w9.heap.size (ctA rb.1 s9)).setRow (w9.heap.size + 1) (hapA rb.2 a9 n9)).heap[w9.heap.size + 1]? = some (.cells (hapA rb.2 a9 n9) 44 (0, 0)) := setRow_heap _ _ _ _ _ _ hz3
    have hp10 : ((((w9.alloc (.cells ctZ 37)).alloc (.cells hap0 44)).setRow w9.heap.size (ctA rb.1 s9)).setRow (w9.heap.size + 1) (hapA rb.2 a9 n9)).heap[g1 + 1]? = some (.cells (hapA ra.2 a8 n8) 44 (0, 0)) :=
      (setRow_other _ _ _ _ (by omega)).trans ((setRow_other _ _ _ _ (by omega)).trans (bx_alloc _ (bx_alloc _ (bx_below hp8 g9))))
    have hX10 : Cb ((((w9.alloc (.cells ctZ 37)).alloc (.cells hap0 44)).setRow w9.heap.size (ctA rb.1 s9)).setRow (w9.heap.size + 1) (hapA rb.2 a9 n9)) g1 ra.1 s7 := ((((hX8.below g9).alloc _).alloc _).other (by omega) nX9 _).other (by omega) nX92 _
    have hA10 : Cb ((((w9.alloc (.cells ctZ 37)).alloc (.cells hap0 44)).setRow w9.heap.size (ctA rb.1 s9)).setRow (w9.heap.size + 1) (hapA rb.2 a9 n9)) pa ca sa := ((((hA8.below g9).alloc _).alloc _).other (by omega) nA9 _).other (by omega) nA92 _
    have hB10 : Cb ((((w9.alloc (.cells ctZ 37)).alloc (.cells hap0 44)).setRow w9.heap.size (ctA rb.1 s9)).setRow (w9.heap.size + 1) (hapA rb.2 a9 n9)) pb cb sb := ((((hB8.below g9).alloc _).alloc _).other (by omega) nBx _).other (by omega) nBx2 _
    have b10 : Below wb.heap.size wb ((((w9.alloc (.cells ctZ 37)).alloc (.cells hap0 44)).setRow w9.heap.size (ctA rb.1 s9)).setRow (w9.heap.size + 1) (hapA rb.2 a9 n9)) := below_setRow (below_setRow (bnew (bnew (bstep b8 g9) _) _) (by omega) _) (by omega) _
    have nA73 := nX92
    have nB93 := nB92
    have nB91 : NBs s9 (g1 + 1) := o9.nbs (by omega)
    clear hX8 hp8 hA8 hB8 b8 hBb hBr o9 y9 g9 hz1 hz2 hz3 hSb nB92 nA9 nA92 nBx nBx2 nX9 nX92
    rw [put_none, put_none]
    generalize (((w9.alloc (.cells ctZ 37)).alloc (.cells hap0 44)).setRow w9.heap.size (ctA rb.1 s9)).setRow (w9.heap.size + 1) (hapA rb.2 a9 n9) = w10 at *
    have q3 : g1 + 1 < w9.heap.size := by omega
    clear l89 l8
    generalize w9.heap.size = g3 at *
    have hS0 : w10.drew.heap[g1]? = some (.cells (ctA ra.1 s7) 37 (0, 0)) ∧ w10.drew.heap[g3]? = some (.cells (ctA rb.1 s9) 37 (0, 0)) := ⟨hX10.box, hY10.box⟩
    have hAd := hA10.drew
    have hBd := hB10.drew
    have hXd := hX10.drew
    have hYd := hY10.drew
    have hpd : w10.drew.heap[g1 + 1]? = some (.cells (hapA ra.2 a8 n8) 44 (0, 0)) := hp10
    have hqd : w10.drew.heap[g3 + 1]? = some (.cells (hapA rb.2 a9 n9) 44 (0, 0)) := hq10
    have bd : Below wb.heap.size wb w10.drew := below_drew1 b10
    refine Rest.begin (S := fun w' => w'.heap[g1]? = some (.cells (ctA ra.1 s7) 37 (0, 0)) ∧ w'.heap[g3]? = some (.cells (ctA rb.1 s9) 37 (0, 0))) (X := [2, 3]) (by kernel_rfl) ?_
    change Rest _ _ _ _ _ _ _ _ _ w10.drew
    clear hA10 hB10 hX10 hY10 hp10 hq10 b10
    generalize w10.drew = w11 at *
    refine Rest.takeS (i := 0) (v := .agg (ctA ra.1 s7)) rfl (by kernel_rfl) (by kernel_rfl) (by kernel_rfl) (by kernel_rfl) (fun _ _ _ h => hQP _ _ _ _ h) hS0 (yields_loadR rowC (by simp [Region.wanted]) _ rfl g1 (by simp [Act.eval]) _ rfl (fun w h => ⟨_, _, h.1⟩)) ?_
    refine Rest.takeS (i := 1) (v := .agg (ctA rb.1 s9)) rfl (by kernel_rfl) (by kernel_rfl) (by kernel_rfl) (by kernel_rfl) (fun _ _ _ h => hQP _ _ _ _ h) hS0 (yields_loadR rowC (by simp [Region.wanted]) _ rfl g3 (by simp [Act.eval, Act.put]) _ rfl (fun w h => ⟨_, _, h.2⟩)) ?_
    refine Rest.one (i := 2) (by kernel_rfl) rfl (fun K hK => ?_)
    (with_reducible refine draw_storeR rowC ?zgd ?zx ?zy ?zo pa (ctA ra.1 s7) ?zhx ?zhy (w := w11) hAd.box ?zn ?zold (ct_ones _ _) ?zh)
    case zo => exact rfl
    case zgd => exact rfl
    case zhx => first | (simp [Act.eval]; done) | simp [Act.eval, Act.put]
    case zhy => first | (simp [Act.eval]; done) | simp [Act.eval, Act.put]
    case zn => rfl
    case zold => rfl
    refine hK _ _ ⟨.inl ⟨(setRow_other w11 pa g1 (ctA ra.1 s7) (by omega)).trans hS0.1, (setRow_other w11 pa g3 (ctA ra.1 s7) (by omega)).trans hS0.2⟩, ?_⟩; clear hK K
    have hB13 := (setRow_other w11 pa pb (ctA ra.1 s7) (by omega)).trans hBd.box
    refine Rest.one (i := 3) (by kernel_rfl) rfl (fun K hK => ?_)
    (with_reducible refine draw_storeR rowC ?ygd ?yx ?yy ?yo pb (ctA rb.1 s9) ?yhx ?yhy (w := w11.setRow pa (ctA ra.1 s7)) hB13 ?yn ?yold (ct_ones _ _) ?yh)
    case yo => exact rfl
    case ygd => exact rfl
    case yhx => first | (simp [Act.eval]; done) | simp [Act.eval, Act.put]
    case yhy => first | (simp [Act.eval]; done) | simp [Act.eval, Act.put]
    case yn => rfl
    case yold => rfl
    refine hK _ _ ⟨.inr (thru_of (by kernel_rfl)), Rest.of_any _ _ _ _ (thru_of (by kernel_rfl)) ?_⟩; clear hK K
    refine wpAny_done (by kernel_rfl) ?_ _
    have hA12 : Cb ((w11.setRow pa (ctA ra.1 s7)).setRow pb (ctA rb.1 s9)) pa ra.1 s7 := (Cb.put hAd.box hXd.o nA7a).other (by omega) nA7b _
    have hB12 : Cb ((w11.setRow pa (ctA ra.1 s7)).setRow pb (ctA rb.1 s9)) pb rb.1 s9 := Cb.put hB13 (hYd.o.setRow nB9a _) nB9b
    have hp12 := (setRow_other (w11.setRow pa (ctA ra.1 s7)) pb (g1 + 1) (ctA rb.1 s9) (by omega)).trans ((setRow_other w11 pa (g1 + 1) (ctA ra.1 s7) (by omega)).trans hpd)
    have hq12 := (setRow_other (w11.setRow pa (ctA ra.1 s7)) pb (g3 + 1) (ctA rb.1 s9) (by omega)).trans ((setRow_other w11 pa (g3 + 1) (ctA ra.1 s7) (by omega)).trans hqd)
    have b12 : Below wb.heap.size wb ((w11.setRow pa (ctA ra.1 s7)).setRow pb (ctA rb.1 s9)) := below_setRow (below_setRow bd lA _) lB _
    clear hAd hBd hXd hYd hpd hqd bd hB13 hS0
    go_simp
    generalize (w11.setRow pa (ctA ra.1 s7)).setRow pb (ctA rb.1 s9) = w12 at *
    go_upto_region 25 with fail
    go_cut [160] from 142 to 160 (fun s160 wx => s160 = .bool sw ∧ wx = w12)
    case first =>
      obtain ⟨bw, ow, yw, hbw, hyw, hcw⟩ := (hW.below b12).at (k := d) (by omega)
      obtain ⟨bz, oz, yz, hbz, hyz, hcz⟩ := (hV.below b12).at (k := d) (by omega)
      have e1 : yw = !sw := by have := HK.out.2.1; rw [hyw] at this; simpa using this
      have e2 : yz = sw := by have := HK.out.2.2; rw [hyz] at this; simpa using this
      have hmin1 : ∀ (ts : Array TypeId) (t : TypeId) (w' : World), (Builtin.min_ ts t #[.int .i64 (d : Int), .int .i64 ((N2 : Int) - 1)]).run Try.prog w' = .ok (.int .i64 (d : Int)) w' := fun ts t w' => by
        rw [run_min_int2]; congr 2; split <;> omega
      have hmin2 : ∀ (ts : Array TypeId) (t : TypeId) (w' : World), (Builtin.min_ ts t #[.int .i64 (d : Int), .int .i64 ((N1 : Int) - 1)]).run Try.prog w' = .ok (.int .i64 (d : Int)) w' := fun ts t w' => by
        rw [run_min_int2]; congr 2; split <;> omega
      subst hbw hbz e1 e2
      clear hyw hyz HN HT HP HE HK
      have hd1' : d < N1 := by omega
      have hd2' : d < N2 := by omega
      cases yz
      all_goals
        go_wp2_with fail
        go_meet
        exact ⟨rfl, rfl⟩
    case rest =>
    obtain ⟨rfl, rfl⟩ := hcut
    go_upto_if 160 with fail
    go_cut [161] from 161 to 162 (fun s161 wx => ∃ (aA : Option Addr) (nA : Nat) (aB : Option Addr) (nB : Nat), wx.heap[g1 + 1]? = some (.cells (hapA (if sw then rb.2 else ra.2) aA nA) 44 (0, 0)) ∧ wx.heap[g3 + 1]? = some (.cells (hapA (if sw then ra.2 else rb.2) aB nB) 44 (0, 0)) ∧ Cb wx pa ra.1 s7 ∧ Cb wx pb rb.1 s9 ∧ Below wb.heap.size wb wx)
    case first =>
      have hq13 := (setRow_other wc (g1 + 1) (g3 + 1) (hapA rb.2 a9 n9) (by omega)).trans hq12
      have hp14 := (setRow_other (wc.setRow (g1 + 1) (hapA rb.2 a9 n9)) (g3 + 1) (g1 + 1) (hapA ra.2 a8 n8) (by omega)).trans (setRow_heap wc (g1 + 1) _ (hapA rb.2 a9 n9) _ _ hp12)
      have hq14 := setRow_heap (wc.setRow (g1 + 1) (hapA rb.2 a9 n9)) (g3 + 1) _ (hapA ra.2 a8 n8) _ _ hq13
      have hA14 := (hA12.other (show pa ≠ g1 + 1 by omega) nA71 (hapA rb.2 a9 n9)).other (show pa ≠ g3 + 1 by omega) nA73 (hapA ra.2 a8 n8)
      have hB14 := (hB12.other (show pb ≠ g1 + 1 by omega) nB91 (hapA rb.2 a9 n9)).other (show pb ≠ g3 + 1 by omega) nB93 (hapA ra.2 a8 n8)
      have b14 := below_setRow (below_setRow b12 (show wb.heap.size ≤ g1 + 1 by omega) (hapA rb.2 a9 n9)) (show wb.heap.size ≤ g3 + 1 by omega) (hapA ra.2 a8 n8)
      clear HN HT HP HE HK HC hW hV
      cases sw
      · go_wp2_with fail
        go_meet
        exact ⟨a8, n8, a9, n9, hp12, hq12, hA12, hB12, b12⟩
      · go_wp2_with (first
          | (with_reducible refine wpList_loadR rowH rfl _ rfl (g3 + 1) rfl hq12 rfl ?_)
          | (with_reducible refine wpList_loadR rowH rfl _ rfl (g1 + 1) rfl hp12 rfl ?_)
          | (with_reducible refine wpList_storeR rowH rfl _ _ rfl (g1 + 1) _ rfl rfl hp12 rfl rfl (hap_ones _ _ _) ?_)
          | (with_reducible refine wpList_storeR rowH rfl _ _ rfl (g3 + 1) _ rfl rfl hq13 rfl rfl (hap_ones _ _ _) ?_))
        go_meet
        exact ⟨a9, n9, a8, n8, hp14, hq14, hA14, hB14, b14⟩
    case rest =>
    clear hp12 hq12 hA12 hB12 b12 nA71 nA73 nB91 nB93
    obtain ⟨aA, nA9, aB, nB8, hp, hq, hA, hB, hbel⟩ := hcut
    have HSn := hid HN.out.1
    have HSa := hid HN.out.2.1
    have HSb := hid HN.out.2.2
    clear HN HT
    generalize (if sw then rb.2 else ra.2) = hA' at hp HSa
    generalize (if sw then ra.2 else rb.2) = hB' at hq HSb
    have k0 : wc.cell? ⟨pa, 0, none⟩ = some (.int .u8 (ra.1.ph : Int)) := (bxC hA.box 0).trans rfl
    have HPh : Hid (i ≤ e + 16 → ra.1.ph ≠ 0) := hid (fun h => (HP.out (i + 1) ra.1 rb.1 (by omega) (by omega) HSn.out).1)
    obtain ⟨pn, hpn⟩ : ∃ pn, pn = ra.1.ph := ⟨_, rfl⟩
    rw [← hpn] at k0 HPh
    have Hpn := hid hpn
    clear hpn
    by_cases eD : i = d
    · have h2 : hA' = (4, zeroFr) := by rw [HSa.out, if_pos eD]
      have h3 : hB' = (0, zeroFr) := by rw [HSb.out, if_neg (by omega)]; rfl
      obtain rfl : tl = -1 := by rw [HC.out.1, if_neg (by omega)]
      obtain rfl : ot = -1 := by rw [HC.out.2, if_neg (by omega)]
      rw [h2] at hp
      rw [h3] at hq
      obtain ⟨m0, _⟩ := hap_cells hp (kI := 4) rfl
      obtain ⟨r0, _⟩ := hap_cells hq (kI := 0) rfl
      have t1 : ((i : Int) != (d : Int)) = false := by simp; omega
      have t2 : ((pn : Int) == 0) = false := by have := HPh.out (by omega); simp; omega
      have HR := hid (And.intro (new_if eD) (keep_if HC.out.2 (by omega)))
      have l1 : i + 1 ≤ e + 17 := by omega
      clear h2 h3 hp hq eD HSa HSb HC HP HE HPh Hpn HK
      go_wp2
      go_roundg (e + 18 - (i + 1))
      case measure => go_light; omega
      case rel => go_light; exact ⟨i + 1, ra.1, rb.1, s7, s9, (i : Int), -1, l1, rfl, by go_num, rfl, rfl, by omega, by omega, by omega, by omega, hA, hB, nA7b, nB9a, hbel, HSn, HR⟩
    by_cases eE : i = e
    · have h2 : hA' = (0, zeroFr) := by rw [HSa.out, if_neg eD]; rfl
      have h3 : hB' = (4, zeroFr) := by rw [HSb.out, if_pos eE]
      obtain rfl : tl = (d : Int) := by rw [HC.out.1, if_pos (by omega)]
      obtain rfl : ot = -1 := by rw [HC.out.2, if_neg (by omega)]
      rw [h2] at hp
      rw [h3] at hq
      obtain ⟨m0, _⟩ := hap_cells hp (kI := 0) rfl
      obtain ⟨r0, _⟩ := hap_cells hq (kI := 4) rfl
      have t1 : decide (i ≤ d) = false := by simp; omega
      have t3 : decide ((d : Int) + 6 < (i : Int)) = false := by simp; omega
      have t4 : ((i : Int) == (i : Int) + 17) = false := by simp; omega
      have t2 : ((pn : Int) == 0) = false := by have := HPh.out (by omega); simp; omega
      have HR := hid (And.intro (keep_if HC.out.1 eD) (new_if eE))
      have l1 : i + 1 ≤ e + 17 := by omega
      clear h2 h3 hp hq eD eE HSa HSb HC HP HE HPh Hpn HK
      go_wp2
      go_roundg (e + 18 - (i + 1))
      case measure => go_light; omega
      case rel => go_light; exact ⟨i + 1, ra.1, rb.1, s7, s9, (d : Int), (i : Int), l1, rfl, by go_num, rfl, rfl, by omega, by omega, by omega, by omega, hA, hB, nA7b, nB9a, hbel, HSn, HR⟩
    have h2 : hA' = (0, zeroFr) := by rw [HSa.out, if_neg eD]; rfl
    have h3 : hB' = (0, zeroFr) := by rw [HSb.out, if_neg eE]; rfl
    rw [h2] at hp
    rw [h3] at hq
    obtain ⟨m0, _⟩ := hap_cells hp (kI := 0) rfl
    obtain ⟨r0, _⟩ := hap_cells hq (kI := 0) rfl
    by_cases e17 : i = e + 17
    · obtain rfl : tl = (d : Int) := by rw [HC.out.1, if_pos (by omega)]
      obtain rfl : ot = (e : Int) := by rw [HC.out.2, if_pos (by omega)]
      have t1 : ((i : Int) == (e : Int) + 17) = true := by simp; omega
      obtain ⟨⟨f1, f2, f3⟩, f4, f5, f6⟩ := HE.out ra.1 rb.1 (by rw [show e + 18 = i + 1 by omega]; exact HSn.out)
      clear k0
      have x0 : wc.cell? ⟨pa, 0, none⟩ = some (.int .u8 0) := (bxC hA.box 0).trans (by show some (Value.int .u8 (ra.1.ph : Int)) = _; rw [f1]; rfl)
      have x7 : wc.cell? ⟨pa, 7, none⟩ = some (.bool true) := (bxC hA.box 7).trans (by show some (Value.bool ra.1.has) = _; rw [f2])
      have x2 : wc.cell? ⟨pa, 2, none⟩ = some (.int .i64 8) := (bxC hA.box 2).trans (by show some (Value.int .i64 ra.1.cf.t) = _; rw [f3]; rfl)
      have x3 : wc.cell? ⟨pa, 3, none⟩ = some (.int .i64 0) := (bxC hA.box 3).trans (by show some (Value.int .i64 ra.1.cf.r) = _; rw [f3]; rfl)
      have x4 : wc.cell? ⟨pa, 4, none⟩ = some (.bool false) := (bxC hA.box 4).trans (by show some (Value.bool ra.1.cf.o) = _; rw [f3]; rfl)
      have x5 : wc.cell? ⟨pa, 5, none⟩ = some (.int .i64 0) := (bxC hA.box 5).trans (by show some (Value.int .i64 ra.1.cf.n) = _; rw [f3]; rfl)
      have x6 : wc.cell? ⟨pa, 6, none⟩ = some (.int .i64 0) := (bxC hA.box 6).trans (by show some (Value.int .i64 ra.1.cf.m) = _; rw [f3]; rfl)
      have z0 : wc.cell? ⟨pb, 0, none⟩ = some (.int .u8 0) := (bxC hB.box 0).trans (by show some (Value.int .u8 (rb.1.ph : Int)) = _; rw [f4]; rfl)
      have z7 : wc.cell? ⟨pb, 7, none⟩ = some (.bool true) := (bxC hB.box 7).trans (by show some (Value.bool rb.1.has) = _; rw [f5])
      have z2 : wc.cell? ⟨pb, 2, none⟩ = some (.int .i64 8) := (bxC hB.box 2).trans (by show some (Value.int .i64 rb.1.cf.t) = _; rw [f6]; rfl)
      have z3 : wc.cell? ⟨pb, 3, none⟩ = some (.int .i64 0) := (bxC hB.box 3).trans (by show some (Value.int .i64 rb.1.cf.r) = _; rw [f6]; rfl)
      have z4 : wc.cell? ⟨pb, 4, none⟩ = some (.bool false) := (bxC hB.box 4).trans (by show some (Value.bool rb.1.cf.o) = _; rw [f6]; rfl)
      have z5 : wc.cell? ⟨pb, 5, none⟩ = some (.int .i64 0) := (bxC hB.box 5).trans (by show some (Value.int .i64 rb.1.cf.n) = _; rw [f6]; rfl)
      have z6 : wc.cell? ⟨pb, 6, none⟩ = some (.int .i64 0) := (bxC hB.box 6).trans (by show some (Value.int .i64 rb.1.cf.m) = _; rw [f6]; rfl)
      clear h2 h3 hp hq eD eE e17 HSa HSb HC HP HE HPh Hpn HK HSn f1 f2 f3 f4 f5 f6 hA hB
      go_wp2_with (go_at_call 12; (with_reducible refine (awake8_any _).mono ?_); rintro e9 w9 ⟨rfl, g9⟩)
      with_reducible apply HX0.out
      exact bstep hbel g9
    have t2 : ((pn : Int) == 0) = false := by have := HPh.out (by omega); simp; omega
    have HR := hid (And.intro (keep_if HC.out.1 eD) (keep_if HC.out.2 eE))
    have l1 : i + 1 ≤ e + 17 := by omega
    by_cases eL : i < e
    · obtain rfl : ot = -1 := by rw [HC.out.2, if_neg (by omega)]
      clear h2 h3 hp hq eD eE e17 HSa HSb HC HP HE HPh Hpn HK
      go_wp2
      go_roundg (e + 18 - (i + 1))
      case measure => go_light; omega
      case rel => go_light; exact ⟨i + 1, ra.1, rb.1, s7, s9, tl, -1, l1, rfl, by go_num, rfl, rfl, btl, btl2, by omega, by omega, hA, hB, nA7b, nB9a, hbel, HSn, HR⟩
    · obtain rfl : ot = (e : Int) := by rw [HC.out.2, if_pos (by omega)]
      have t1 : ((i : Int) == (e : Int) + 17) = false := by simp; omega
      clear h2 h3 hp hq eD eE e17 HSa HSb HC HP HE HPh Hpn HK eL
      go_wp2
      go_roundg (e + 18 - (i + 1))
      case measure => go_light; omega
      case rel => go_light; exact ⟨i + 1, ra.1, rb.1, s7, s9, tl, (e : Int), l1, rfl, by go_num, rfl, rfl, btl, btl2, bot, bot2, hA, hB, nA7b, nB9a, hbel, HSn, HR⟩
end Go.Proofs.Ytaagfaidjihjcaa
